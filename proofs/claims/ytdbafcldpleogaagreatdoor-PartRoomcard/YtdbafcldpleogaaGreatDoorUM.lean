/-
  What a look tells, and what is left of a rectangle: framed, colourOf, backOf, leftOf.
-/
import Derived.Test.YtdbafcldpleogaaGreatDoorUF
import Derived.Test.YtdbafcldpleogaaGreatDoorW6
import Derived.Test.YtdbafcldpleogaaGreatDoorSP
namespace Go.Proofs.YtdbafcldpleogaaGreatDoor
open Go.RowKit

/-- A bit of what a look tells. -/
def hb (k : Lk) (b : Int) : Bool := bits .and .u8 ((k.has : Nat) : Int) b != 0
def frmB (k : Lk) : Bool := hb k 4 && k.bd
def coR (k : Lk) : Int := if hb k 1 then k.r else 255
def coG (k : Lk) : Int := if hb k 1 then k.g else 255
def coB (k : Lk) : Int := if hb k 1 then k.b else 255
def coA (k : Lk) : Int := if hb k 1 then k.a else 255
def bkR (k : Lk) : Int := if hb k 2 then k.r2 else 0
def bkG (k : Lk) : Int := if hb k 2 then k.g2 else 0
def bkB (k : Lk) : Int := if hb k 2 then k.b2 else 0
def bkA (k : Lk) : Int := if hb k 2 then k.a2 else 0
def lef1 (r : Rc) (k : Lk) : Rc := if frmB k then insR r.x r.y r.w r.h 1 else r
def lefR (r : Rc) (k : Lk) : Rc := if hb k 8 then insR (lef1 r k).x (lef1 r k).y (lef1 r k).w (lef1 r k).h k.pad else lef1 r k

theorem ins_small (x y n m k : Int) : -32768 ≤ (insR x y n m k).x ∧ (insR x y n m k).x ≤ 32768 ∧ -32768 ≤ (insR x y n m k).y ∧ (insR x y n m k).y ≤ 32768 := by
  unfold insR
  split
  · rename_i h
    simp only [mayB, spanB, witB, Bool.and_eq_true, decide_eq_true_eq] at h
    unfold szR btw
    by_cases hc : x + n - k ≤ x + k ∨ y + m - k ≤ y + k
    · simp only [if_pos hc]
      split <;> simp [zr]
    · simp only [if_neg hc]
      split
      · dsimp only
        omega
      · simp [zr]
  · simp [zr]

theorem framed_any (k : Lk) (w : World) :
    Calls Tryz.prog 156 #[(Value.agg #[.int .u8 (k.has : Nat), .int .u8 k.r, .int .u8 k.g, .int .u8 k.b, .int .u8 k.a, .int .u8 k.r2, .int .u8 k.g2, .int .u8 k.b2, .int .u8 k.a2, .bool k.bd, .int .i64 k.pad])] w fun e w' => e = .returned (.bool (frmB k)) ∧ w' = w.alloc (.cells (#[.int .u8 (k.has : Nat), .int .u8 k.r, .int .u8 k.g, .int .u8 k.b, .int .u8 k.a, .int .u8 k.r2, .int .u8 k.g2, .int .u8 k.b2, .int .u8 k.a2, .bool k.bd, .int .i64 k.pad]) 67) := by
  unfold frmB
  cases h : hb k 4
  · have h' : (bits .and .u8 ((k.has : Nat) : Int) 4 != 0) = false := h
    clear h
    go_enter Tryz.func156, Tryz.ntmps156
    go_wp2
    go_ret
    exact ⟨rfl, rfl⟩
  · have h' : (bits .and .u8 ((k.has : Nat) : Int) 4 != 0) = true := h
    clear h
    go_enter Tryz.func156, Tryz.ntmps156
    go_wp2
    go_ret
    exact ⟨rfl, rfl⟩

theorem colourOf_any (k : Lk) (w : World) :
    Calls Tryz.prog 157 #[(Value.agg #[.int .u8 (k.has : Nat), .int .u8 k.r, .int .u8 k.g, .int .u8 k.b, .int .u8 k.a, .int .u8 k.r2, .int .u8 k.g2, .int .u8 k.b2, .int .u8 k.a2, .bool k.bd, .int .i64 k.pad])] w fun e w' => e = .returned (.agg #[.int .u8 (coR k), .int .u8 (coG k), .int .u8 (coB k), .int .u8 (coA k)]) ∧ Below w.heap.size w w' := by
  unfold coR coG coB coA
  cases h : hb k 1
  · have h' : (bits .and .u8 ((k.has : Nat) : Int) 1 != 0) = false := h
    clear h
    go_enter Tryz.func157, Tryz.ntmps157
    go_wp2
    exact bodyPost_ret (v := .agg #[.int .u8 255, .int .u8 255, .int .u8 255, .int .u8 255]) (by simp [results, Tryz.results157, go_sem]) rfl ⟨rfl, ((Below.refl _ w).alloc (Nat.le_refl _) _).alloc (by simp) _⟩
  · have h' : (bits .and .u8 ((k.has : Nat) : Int) 1 != 0) = true := h
    clear h
    go_enter Tryz.func157, Tryz.ntmps157
    go_wp2
    exact bodyPost_ret (v := .agg #[.int .u8 k.r, .int .u8 k.g, .int .u8 k.b, .int .u8 k.a]) (by simp [results, Tryz.results157, go_sem]) rfl ⟨rfl, ((Below.refl _ w).alloc (Nat.le_refl _) _).alloc (by simp) _⟩

theorem backOf_any (k : Lk) (w : World) :
    Calls Tryz.prog 159 #[(Value.agg #[.int .u8 (k.has : Nat), .int .u8 k.r, .int .u8 k.g, .int .u8 k.b, .int .u8 k.a, .int .u8 k.r2, .int .u8 k.g2, .int .u8 k.b2, .int .u8 k.a2, .bool k.bd, .int .i64 k.pad])] w fun e w' => e = .returned (.agg #[.int .u8 (bkR k), .int .u8 (bkG k), .int .u8 (bkB k), .int .u8 (bkA k)]) ∧ Below w.heap.size w w' := by
  unfold bkR bkG bkB bkA
  cases h : hb k 2
  · have h' : (bits .and .u8 ((k.has : Nat) : Int) 2 != 0) = false := h
    clear h
    go_enter Tryz.func159, Tryz.ntmps159
    go_wp2
    exact bodyPost_ret (v := .agg #[.int .u8 0, .int .u8 0, .int .u8 0, .int .u8 0]) (by simp [results, Tryz.results159, go_sem]) rfl ⟨rfl, ((Below.refl _ w).alloc (Nat.le_refl _) _).alloc (by simp) _⟩
  · have h' : (bits .and .u8 ((k.has : Nat) : Int) 2 != 0) = true := h
    clear h
    go_enter Tryz.func159, Tryz.ntmps159
    go_wp2
    exact bodyPost_ret (v := .agg #[.int .u8 k.r2, .int .u8 k.g2, .int .u8 k.b2, .int .u8 k.a2]) (by simp [results, Tryz.results159, go_sem]) rfl ⟨rfl, ((Below.refl _ w).alloc (Nat.le_refl _) _).alloc (by simp) _⟩

theorem Blk.look {W : World} {b : Nat} {k : Lk} {t : TypeId} (h : Blk W b (#[.int .u8 (k.has : Nat), .int .u8 k.r, .int .u8 k.g, .int .u8 k.b, .int .u8 k.a, .int .u8 k.r2, .int .u8 k.g2, .int .u8 k.b2, .int .u8 k.a2, .bool k.bd, .int .i64 k.pad]) t) : W.cell? ⟨b, 0, none⟩ = some (.int .u8 (k.has : Nat)) ∧ W.cell? ⟨b, 1, none⟩ = some (.int .u8 k.r) ∧ W.cell? ⟨b, 2, none⟩ = some (.int .u8 k.g) ∧ W.cell? ⟨b, 3, none⟩ = some (.int .u8 k.b) ∧ W.cell? ⟨b, 4, none⟩ = some (.int .u8 k.a) ∧ W.cell? ⟨b, 5, none⟩ = some (.int .u8 k.r2) ∧ W.cell? ⟨b, 6, none⟩ = some (.int .u8 k.g2) ∧ W.cell? ⟨b, 7, none⟩ = some (.int .u8 k.b2) ∧ W.cell? ⟨b, 8, none⟩ = some (.int .u8 k.a2) ∧ W.cell? ⟨b, 9, none⟩ = some (.bool k.bd) ∧ W.cell? ⟨b, 10, none⟩ = some (.int .i64 k.pad) :=
  ⟨h.cell 0, h.cell 1, h.cell 2, h.cell 3, h.cell 4, h.cell 5, h.cell 6, h.cell 7, h.cell 8, h.cell 9, h.cell 10⟩

set_option maxHeartbeats 4000000 in
theorem leftOf_any (r : Rc) (k : Lk) (w : World) (hx : I64 r.x) (hy : I64 r.y) :
    Calls Tryz.prog 158 #[.agg #[.int .i64 r.x, .int .i64 r.y, .int .i64 r.w, .int .i64 r.h], (Value.agg #[.int .u8 (k.has : Nat), .int .u8 k.r, .int .u8 k.g, .int .u8 k.b, .int .u8 k.a, .int .u8 k.r2, .int .u8 k.g2, .int .u8 k.b2, .int .u8 k.a2, .bool k.bd, .int .i64 k.pad])] w fun e w' => e = .returned (.agg #[.int .i64 (lefR r k).x, .int .i64 (lefR r k).y, .int .i64 (lefR r k).w, .int .i64 (lefR r k).h]) ∧ Below w.heap.size w w' := by
  have HF : Hid (∀ W, Calls Tryz.prog 156 #[(Value.agg #[.int .u8 (k.has : Nat), .int .u8 k.r, .int .u8 k.g, .int .u8 k.b, .int .u8 k.a, .int .u8 k.r2, .int .u8 k.g2, .int .u8 k.b2, .int .u8 k.a2, .bool k.bd, .int .i64 k.pad])] W fun e w' => e = .returned (.bool (frmB k)) ∧ w' = W.alloc (.cells (#[.int .u8 (k.has : Nat), .int .u8 k.r, .int .u8 k.g, .int .u8 k.b, .int .u8 k.a, .int .u8 k.r2, .int .u8 k.g2, .int .u8 k.b2, .int .u8 k.a2, .bool k.bd, .int .i64 k.pad]) 67)) := fun W => framed_any k W
  have HI : Hid (∀ W, Calls Tryz.prog 160 #[.agg #[.int .i64 r.x, .int .i64 r.y, .int .i64 r.w, .int .i64 r.h], .int .i64 1] W fun e w' => e = .returned (.tuple #[.agg #[.int .i64 (insR r.x r.y r.w r.h 1).x, .int .i64 (insR r.x r.y r.w r.h 1).y, .int .i64 (insR r.x r.y r.w r.h 1).w, .int .i64 (insR r.x r.y r.w r.h 1).h], .int .i64 (insE r.x r.y r.w r.h 1)]) ∧ Below W.heap.size W w') := fun W => inset_any _ _ _ _ _ W hx hy
  have HJ : Hid (∀ W, Calls Tryz.prog 160 #[.agg #[.int .i64 (lef1 r k).x, .int .i64 (lef1 r k).y, .int .i64 (lef1 r k).w, .int .i64 (lef1 r k).h], .int .i64 k.pad] W fun e w' => e = .returned (.tuple #[.agg #[.int .i64 (insR (lef1 r k).x (lef1 r k).y (lef1 r k).w (lef1 r k).h k.pad).x, .int .i64 (insR (lef1 r k).x (lef1 r k).y (lef1 r k).w (lef1 r k).h k.pad).y, .int .i64 (insR (lef1 r k).x (lef1 r k).y (lef1 r k).w (lef1 r k).h k.pad).w, .int .i64 (insR (lef1 r k).x (lef1 r k).y (lef1 r k).w (lef1 r k).h k.pad).h], .int .i64 (insE (lef1 r k).x (lef1 r k).y (lef1 r k).w (lef1 r k).h k.pad)]) ∧ Below W.heap.size W w') := fun W => by
    refine inset_any _ _ _ _ _ W ?_ ?_
    · unfold lef1; split
      · have := ins_small r.x r.y r.w r.h 1; exact ⟨by omega, by omega⟩
      · exact hx
    · unfold lef1; split
      · have := ins_small r.x r.y r.w r.h 1; exact ⟨by omega, by omega⟩
      · exact hy
  clear hx hy
  have Z0 := Blk.new ((w.alloc (.cells #[.int .i64 r.x, .int .i64 r.y, .int .i64 r.w, .int .i64 r.h] 63)).alloc (.cells (#[.int .u8 (k.has : Nat), .int .u8 k.r, .int .u8 k.g, .int .u8 k.b, .int .u8 k.a, .int .u8 k.r2, .int .u8 k.g2, .int .u8 k.b2, .int .u8 k.a2, .bool k.bd, .int .i64 k.pad]) 67)) #[.int .i64 0, .int .i64 0, .int .i64 0, .int .i64 0] 63
  have Y0 := Blk.new (w.alloc (.cells #[.int .i64 r.x, .int .i64 r.y, .int .i64 r.w, .int .i64 r.h] 63)) (#[.int .u8 (k.has : Nat), .int .u8 k.r, .int .u8 k.g, .int .u8 k.b, .int .u8 k.a, .int .u8 k.r2, .int .u8 k.g2, .int .u8 k.b2, .int .u8 k.a2, .bool k.bd, .int .i64 k.pad]) 67
  simp only [World.size_alloc] at Z0 Y0
  have HA : Hid (Blk ((((w.alloc (.cells #[.int .i64 r.x, .int .i64 r.y, .int .i64 r.w, .int .i64 r.h] 63)).alloc (.cells (#[.int .u8 (k.has : Nat), .int .u8 k.r, .int .u8 k.g, .int .u8 k.b, .int .u8 k.a, .int .u8 k.r2, .int .u8 k.g2, .int .u8 k.b2, .int .u8 k.a2, .bool k.bd, .int .i64 k.pad]) 67)).alloc (.cells #[.int .i64 0, .int .i64 0, .int .i64 0, .int .i64 0] 63)).alloc (.cells (#[.int .u8 (k.has : Nat), .int .u8 k.r, .int .u8 k.g, .int .u8 k.b, .int .u8 k.a, .int .u8 k.r2, .int .u8 k.g2, .int .u8 k.b2, .int .u8 k.a2, .bool k.bd, .int .i64 k.pad]) 67)) w.heap.size #[.int .i64 r.x, .int .i64 r.y, .int .i64 r.w, .int .i64 r.h] 63 ∧ Blk ((((w.alloc (.cells #[.int .i64 r.x, .int .i64 r.y, .int .i64 r.w, .int .i64 r.h] 63)).alloc (.cells (#[.int .u8 (k.has : Nat), .int .u8 k.r, .int .u8 k.g, .int .u8 k.b, .int .u8 k.a, .int .u8 k.r2, .int .u8 k.g2, .int .u8 k.b2, .int .u8 k.a2, .bool k.bd, .int .i64 k.pad]) 67)).alloc (.cells #[.int .i64 0, .int .i64 0, .int .i64 0, .int .i64 0] 63)).alloc (.cells (#[.int .u8 (k.has : Nat), .int .u8 k.r, .int .u8 k.g, .int .u8 k.b, .int .u8 k.a, .int .u8 k.r2, .int .u8 k.g2, .int .u8 k.b2, .int .u8 k.a2, .bool k.bd, .int .i64 k.pad]) 67)) (w.heap.size + 1) (#[.int .u8 (k.has : Nat), .int .u8 k.r, .int .u8 k.g, .int .u8 k.b, .int .u8 k.a, .int .u8 k.r2, .int .u8 k.g2, .int .u8 k.b2, .int .u8 k.a2, .bool k.bd, .int .i64 k.pad]) 67 ∧ Blk ((((w.alloc (.cells #[.int .i64 r.x, .int .i64 r.y, .int .i64 r.w, .int .i64 r.h] 63)).alloc (.cells (#[.int .u8 (k.has : Nat), .int .u8 k.r, .int .u8 k.g, .int .u8 k.b, .int .u8 k.a, .int .u8 k.r2, .int .u8 k.g2, .int .u8 k.b2, .int .u8 k.a2, .bool k.bd, .int .i64 k.pad]) 67)).alloc (.cells #[.int .i64 0, .int .i64 0, .int .i64 0, .int .i64 0] 63)).alloc (.cells (#[.int .u8 (k.has : Nat), .int .u8 k.r, .int .u8 k.g, .int .u8 k.b, .int .u8 k.a, .int .u8 k.r2, .int .u8 k.g2, .int .u8 k.b2, .int .u8 k.a2, .bool k.bd, .int .i64 k.pad]) 67)) (w.heap.size + 1 + 1) #[.int .i64 0, .int .i64 0, .int .i64 0, .int .i64 0] 63 ∧ Below w.heap.size w ((((w.alloc (.cells #[.int .i64 r.x, .int .i64 r.y, .int .i64 r.w, .int .i64 r.h] 63)).alloc (.cells (#[.int .u8 (k.has : Nat), .int .u8 k.r, .int .u8 k.g, .int .u8 k.b, .int .u8 k.a, .int .u8 k.r2, .int .u8 k.g2, .int .u8 k.b2, .int .u8 k.a2, .bool k.bd, .int .i64 k.pad]) 67)).alloc (.cells #[.int .i64 0, .int .i64 0, .int .i64 0, .int .i64 0] 63)).alloc (.cells (#[.int .u8 (k.has : Nat), .int .u8 k.r, .int .u8 k.g, .int .u8 k.b, .int .u8 k.a, .int .u8 k.r2, .int .u8 k.g2, .int .u8 k.b2, .int .u8 k.a2, .bool k.bd, .int .i64 k.pad]) 67))) :=
    ⟨(((Blk.new _ _ _).alloc _).alloc _).alloc _, (Y0.alloc _).alloc _, Z0.alloc _, ((((Below.refl _ w).alloc (Nat.le_refl _) _).alloc (by simp) _).alloc (by simp; omega) _).alloc (by simp; omega) _⟩
  clear Z0 Y0
  have main : ∀ b1 b2, frmB k = b1 → hb k 8 = b2 → Calls Tryz.prog 158 #[.agg #[.int .i64 r.x, .int .i64 r.y, .int .i64 r.w, .int .i64 r.h], (Value.agg #[.int .u8 (k.has : Nat), .int .u8 k.r, .int .u8 k.g, .int .u8 k.b, .int .u8 k.a, .int .u8 k.r2, .int .u8 k.g2, .int .u8 k.b2, .int .u8 k.a2, .bool k.bd, .int .i64 k.pad])] w fun e w' => e = .returned (.agg #[.int .i64 (lefR r k).x, .int .i64 (lefR r k).y, .int .i64 (lefR r k).w, .int .i64 (lefR r k).h]) ∧ Below w.heap.size w w' := by
    intro b1 b2 e1 e2
    rw [e1] at HF
    have h8 : (bits .and .u8 ((k.has : Nat) : Int) 8 != 0) = b2 := e2
    cases b1
    · have l1 : lef1 r k = r := by simp [lef1, e1]
      rw [l1] at HJ
      cases b2
      · have l2 : lefR r k = r := by simp [lefR, e2, l1]
        rw [l2]
        clear e1 e2 l1 l2
        go_enter Tryz.func158, Tryz.ntmps158
        go_wp2_with fail
        refine (HF.out _).mono ?_
        rintro e w1 ⟨rfl, rfl⟩
        obtain ⟨A, B, C, L⟩ := HA.out
        generalize (((w.alloc (.cells #[.int .i64 r.x, .int .i64 r.y, .int .i64 r.w, .int .i64 r.h] 63)).alloc (.cells (#[.int .u8 (k.has : Nat), .int .u8 k.r, .int .u8 k.g, .int .u8 k.b, .int .u8 k.a, .int .u8 k.r2, .int .u8 k.g2, .int .u8 k.b2, .int .u8 k.a2, .bool k.bd, .int .i64 k.pad]) 67)).alloc (.cells #[.int .i64 0, .int .i64 0, .int .i64 0, .int .i64 0] 63)).alloc (.cells (#[.int .u8 (k.has : Nat), .int .u8 k.r, .int .u8 k.g, .int .u8 k.b, .int .u8 k.a, .int .u8 k.r2, .int .u8 k.g2, .int .u8 k.b2, .int .u8 k.a2, .bool k.bd, .int .i64 k.pad]) 67) = V at *
        obtain ⟨a0, a1, a2, a3⟩ := A.at4
        obtain ⟨c0, c1, c2, c3⟩ := C.at4
        have fc := C.frozen
        have k0 := B.look.1
        have HL : Hid (Below w.heap.size w V) := L
        clear A B C L HA
        go_wp2
        exact bodyPost_ret (v := .agg #[.int .i64 r.x, .int .i64 r.y, .int .i64 r.w, .int .i64 r.h]) (by simp [results, Tryz.results158, go_sem, c0, c1, c2, c3]) rfl ⟨rfl, set4_below HL.out (le2 _) _ _ _ _⟩
      · have l2 : lefR r k = insR r.x r.y r.w r.h k.pad := by simp [lefR, e2, l1]
        rw [l2]
        generalize insR r.x r.y r.w r.h k.pad = q at *
        generalize insE r.x r.y r.w r.h k.pad = q2 at *
        clear e1 e2 l1 l2
        go_enter Tryz.func158, Tryz.ntmps158
        go_wp2_with fail
        refine (HF.out _).mono ?_
        rintro e w1 ⟨rfl, rfl⟩
        obtain ⟨A, B, C, L⟩ := HA.out
        generalize (((w.alloc (.cells #[.int .i64 r.x, .int .i64 r.y, .int .i64 r.w, .int .i64 r.h] 63)).alloc (.cells (#[.int .u8 (k.has : Nat), .int .u8 k.r, .int .u8 k.g, .int .u8 k.b, .int .u8 k.a, .int .u8 k.r2, .int .u8 k.g2, .int .u8 k.b2, .int .u8 k.a2, .bool k.bd, .int .i64 k.pad]) 67)).alloc (.cells #[.int .i64 0, .int .i64 0, .int .i64 0, .int .i64 0] 63)).alloc (.cells (#[.int .u8 (k.has : Nat), .int .u8 k.r, .int .u8 k.g, .int .u8 k.b, .int .u8 k.a, .int .u8 k.r2, .int .u8 k.g2, .int .u8 k.b2, .int .u8 k.a2, .bool k.bd, .int .i64 k.pad]) 67) = V at *
        obtain ⟨a0, a1, a2, a3⟩ := A.at4
        have k0 := B.look.1
        have k10 := B.look.2.2.2.2.2.2.2.2.2.2
        have HB : Hid (Blk V w.heap.size #[.int .i64 r.x, .int .i64 r.y, .int .i64 r.w, .int .i64 r.h] 63 ∧ Blk V (w.heap.size + 1 + 1) #[.int .i64 0, .int .i64 0, .int .i64 0, .int .i64 0] 63 ∧ Below w.heap.size w V) := ⟨A, C, L⟩
        clear A B C L HA
        go_wp2_with fail
        refine (HJ.out _).mono ?_
        rintro e w1 ⟨rfl, hb⟩
        obtain ⟨A, C, L⟩ := HB.out
        replace A := A.below hb
        replace C := C.below hb
        replace L := L.trans (hb.mono L.size)
        obtain ⟨d0, d1, d2, d3⟩ := A.at4
        obtain ⟨c0, c1, c2, c3⟩ := C.at4
        have fc := C.frozen
        have fa := A.frozen
        have HL : Hid (Below w.heap.size w w1) := L
        clear A C L hb HB a0 a1 a2 a3 k0 k10
        go_wp2
        exact bodyPost_ret (v := .agg #[.int .i64 q.x, .int .i64 q.y, .int .i64 q.w, .int .i64 q.h]) (by simp [results, Tryz.results158, go_sem, c0, c1, c2, c3]) rfl ⟨rfl, set4_below (set4_below HL.out (Nat.le_refl _) _ _ _ _) (le2 _) _ _ _ _⟩
    · have l1 : lef1 r k = insR r.x r.y r.w r.h 1 := by simp [lef1, e1]
      rw [l1] at HJ
      cases b2
      · have l2 : lefR r k = insR r.x r.y r.w r.h 1 := by simp [lefR, e2, l1]
        rw [l2]
        generalize insR r.x r.y r.w r.h 1 = q at *
        generalize insE r.x r.y r.w r.h 1 = q2 at *
        clear e1 e2 l1 l2
        go_enter Tryz.func158, Tryz.ntmps158
        go_wp2_with fail
        refine (HF.out _).mono ?_
        rintro e w1 ⟨rfl, rfl⟩
        obtain ⟨A, B, C, L⟩ := HA.out
        generalize (((w.alloc (.cells #[.int .i64 r.x, .int .i64 r.y, .int .i64 r.w, .int .i64 r.h] 63)).alloc (.cells (#[.int .u8 (k.has : Nat), .int .u8 k.r, .int .u8 k.g, .int .u8 k.b, .int .u8 k.a, .int .u8 k.r2, .int .u8 k.g2, .int .u8 k.b2, .int .u8 k.a2, .bool k.bd, .int .i64 k.pad]) 67)).alloc (.cells #[.int .i64 0, .int .i64 0, .int .i64 0, .int .i64 0] 63)).alloc (.cells (#[.int .u8 (k.has : Nat), .int .u8 k.r, .int .u8 k.g, .int .u8 k.b, .int .u8 k.a, .int .u8 k.r2, .int .u8 k.g2, .int .u8 k.b2, .int .u8 k.a2, .bool k.bd, .int .i64 k.pad]) 67) = V at *
        obtain ⟨a0, a1, a2, a3⟩ := A.at4
        have HB : Hid (Blk V w.heap.size #[.int .i64 r.x, .int .i64 r.y, .int .i64 r.w, .int .i64 r.h] 63 ∧ Blk V (w.heap.size + 1) (#[.int .u8 (k.has : Nat), .int .u8 k.r, .int .u8 k.g, .int .u8 k.b, .int .u8 k.a, .int .u8 k.r2, .int .u8 k.g2, .int .u8 k.b2, .int .u8 k.a2, .bool k.bd, .int .i64 k.pad]) 67 ∧ Blk V (w.heap.size + 1 + 1) #[.int .i64 0, .int .i64 0, .int .i64 0, .int .i64 0] 63 ∧ Below w.heap.size w V) := ⟨A, B, C, L⟩
        clear A B C L HA
        go_wp2_with fail
        refine (HI.out _).mono ?_
        rintro e w1 ⟨rfl, hb⟩
        obtain ⟨A, B, C, L⟩ := HB.out
        replace A := A.below hb
        replace B := B.below hb
        replace C := C.below hb
        replace L := L.trans (hb.mono L.size)
        obtain ⟨d0, d1, d2, d3⟩ := A.at4
        obtain ⟨c0, c1, c2, c3⟩ := C.at4
        have fc := C.frozen
        have fa := A.frozen
        have k0 := B.look.1
        have HL : Hid (Below w.heap.size w w1) := L
        clear A B C L hb HB a0 a1 a2 a3
        go_wp2
        exact bodyPost_ret (v := .agg #[.int .i64 q.x, .int .i64 q.y, .int .i64 q.w, .int .i64 q.h]) (by simp [results, Tryz.results158, go_sem, c0, c1, c2, c3]) rfl ⟨rfl, set4_below (set4_below HL.out (Nat.le_refl _) _ _ _ _) (le2 _) _ _ _ _⟩
      · have l2 : lefR r k = insR (insR r.x r.y r.w r.h 1).x (insR r.x r.y r.w r.h 1).y (insR r.x r.y r.w r.h 1).w (insR r.x r.y r.w r.h 1).h k.pad := by simp [lefR, e2, l1]
        rw [l2]
        generalize insR r.x r.y r.w r.h 1 = q at *
        generalize insE r.x r.y r.w r.h 1 = q2 at *
        generalize insR q.x q.y q.w q.h k.pad = p at *
        generalize insE q.x q.y q.w q.h k.pad = p2 at *
        clear e1 e2 l1 l2
        go_enter Tryz.func158, Tryz.ntmps158
        go_wp2_with fail
        refine (HF.out _).mono ?_
        rintro e w1 ⟨rfl, rfl⟩
        obtain ⟨A, B, C, L⟩ := HA.out
        generalize (((w.alloc (.cells #[.int .i64 r.x, .int .i64 r.y, .int .i64 r.w, .int .i64 r.h] 63)).alloc (.cells (#[.int .u8 (k.has : Nat), .int .u8 k.r, .int .u8 k.g, .int .u8 k.b, .int .u8 k.a, .int .u8 k.r2, .int .u8 k.g2, .int .u8 k.b2, .int .u8 k.a2, .bool k.bd, .int .i64 k.pad]) 67)).alloc (.cells #[.int .i64 0, .int .i64 0, .int .i64 0, .int .i64 0] 63)).alloc (.cells (#[.int .u8 (k.has : Nat), .int .u8 k.r, .int .u8 k.g, .int .u8 k.b, .int .u8 k.a, .int .u8 k.r2, .int .u8 k.g2, .int .u8 k.b2, .int .u8 k.a2, .bool k.bd, .int .i64 k.pad]) 67) = V at *
        obtain ⟨a0, a1, a2, a3⟩ := A.at4
        have HB : Hid (Blk V w.heap.size #[.int .i64 r.x, .int .i64 r.y, .int .i64 r.w, .int .i64 r.h] 63 ∧ Blk V (w.heap.size + 1) (#[.int .u8 (k.has : Nat), .int .u8 k.r, .int .u8 k.g, .int .u8 k.b, .int .u8 k.a, .int .u8 k.r2, .int .u8 k.g2, .int .u8 k.b2, .int .u8 k.a2, .bool k.bd, .int .i64 k.pad]) 67 ∧ Blk V (w.heap.size + 1 + 1) #[.int .i64 0, .int .i64 0, .int .i64 0, .int .i64 0] 63 ∧ Below w.heap.size w V) := ⟨A, B, C, L⟩
        clear A B C L HA
        go_wp2_with fail
        refine (HI.out _).mono ?_
        rintro e w1 ⟨rfl, hb⟩
        obtain ⟨A, B, C, L⟩ := HB.out
        replace A := A.below hb
        replace B := B.below hb
        replace C := C.below hb
        replace L := L.trans (hb.mono L.size)
        obtain ⟨d0, d1, d2, d3⟩ := A.at4
        have fa := A.frozen
        have k0 := B.look.1
        have k10 := B.look.2.2.2.2.2.2.2.2.2.2
        have HB : Hid (Blk w1 w.heap.size #[.int .i64 r.x, .int .i64 r.y, .int .i64 r.w, .int .i64 r.h] 63 ∧ Blk w1 (w.heap.size + 1 + 1) #[.int .i64 0, .int .i64 0, .int .i64 0, .int .i64 0] 63 ∧ Below w.heap.size w w1) := ⟨A, C, L⟩
        clear A B C L hb a0 a1 a2 a3
        go_wp2_with fail
        have A := HB.out.1.put4 (.int .i64 q.x) (.int .i64 q.y) (.int .i64 q.w) (.int .i64 q.h)
        have C := (((HB.out.2.1.other ⟨w.heap.size, 0, none⟩ (.int .i64 q.x) (by show w.heap.size ≠ _; omega)).other ⟨w.heap.size, 1, none⟩ (.int .i64 q.y) (by show w.heap.size ≠ _; omega)).other ⟨w.heap.size, 2, none⟩ (.int .i64 q.w) (by show w.heap.size ≠ _; omega)).other ⟨w.heap.size, 3, none⟩ (.int .i64 q.h) (by show w.heap.size ≠ _; omega)
        have L := set4_below HB.out.2.2 (Nat.le_refl w.heap.size) (.int .i64 q.x) (.int .i64 q.y) (.int .i64 q.w) (.int .i64 q.h)
        refine (HJ.out _).mono ?_
        rintro e w2 ⟨rfl, hb⟩
        replace A := A.below hb
        replace C := C.below hb
        replace L := L.trans (hb.mono L.size)
        obtain ⟨e0, e1, e2, e3⟩ := A.at4
        obtain ⟨c0, c1, c2, c3⟩ := C.at4
        have fc := C.frozen
        have fa2 := A.frozen
        have HL : Hid (Below w.heap.size w w2) := L
        clear A C L hb HB d0 d1 d2 d3 k0 k10 fa
        go_wp2
        exact bodyPost_ret (v := .agg #[.int .i64 p.x, .int .i64 p.y, .int .i64 p.w, .int .i64 p.h]) (by simp [results, Tryz.results158, go_sem, c0, c1, c2, c3]) rfl ⟨rfl, set4_below (set4_below HL.out (Nat.le_refl _) _ _ _ _) (le2 _) _ _ _ _⟩
  exact main _ _ rfl rfl

end Go.Proofs.YtdbafcldpleogaaGreatDoor
