/-
  Masks in plain numbers: what Must tells of the lowest six bits.
-/
import Derived.Test.YtdbafcldpleogaaGreatDoorUH
namespace Go.Proofs.YtdbafcldpleogaaGreatDoor
open Go.RowKit

theorem and63_fin : ∀ a b : Fin 256, bits .and .u16 ((a.val * 256 + b.val : Nat) : Int) 63 = ((b.val % 64 : Nat) : Int) := by decide +kernel
theorem and63 (m : Nat) (h : m < 65536) : bits .and .u16 (m : Int) 63 = ((m % 64 : Nat) : Int) := by
  have := and63_fin ⟨m / 256, by omega⟩ ⟨m % 256, by omega⟩
  simp only at this
  rw [show m / 256 * 256 + m % 256 = m by omega, show m % 256 % 64 = m % 64 by omega] at this
  exact this
def Ty.all : List Ty := [.label, .button, .field, .box, .scroll, .canvas, .gap]
theorem Ty.mem (t : Ty) : t ∈ Ty.all := by cases t <;> simp [Ty.all]
/-- What a mask and a type make of it. -/
def msB (t : Ty) (j : Nat) : Bool :=
  let r := misK t (j : Int) 0
  let ms := bits .andNot .u16 (j : Int) ((t.can : Nat) : Int)
  !beyB (j : Int) && (if ms == 0 then r == 0 else (r != 0) && (bits .and .u16 r ms == r) && (bits .and .u16 r (r - 1) == 0) && (bits .and .u16 ms (r - 1) == 0) && decide (1 ≤ r) && decide (r ≤ 32))
theorem ms_fin : ∀ j : Fin 64, (Ty.all.all fun t => msB t j.val) = true := by decide +kernel
theorem ms_any (t : Ty) (j : Nat) (h : j < 64) : msB t j = true := List.all_eq_true.1 (ms_fin ⟨j, h⟩) t (Ty.mem t)
theorem can_must (t : Ty) : beyB ((t.can : Nat) : Int) = false ∧ misK t ((t.can : Nat) : Int) 0 = 0 := by cases t <;> decide +kernel
/-- What the six calls tell, put together. -/
theorem told_fin (t : Ty) : bits .or .u16 (if t.mes then 1 else 0) (if t.pai then 2 else 0) = ((t.can % 4 : Nat) : Int) ∧ bits .or .u16 ((t.can % 4 : Nat) : Int) (if t.foc then 4 else 0) = ((t.can % 8 : Nat) : Int) ∧ bits .or .u16 ((t.can % 8 : Nat) : Int) (if t.scr then 8 else 0) = ((t.can % 16 : Nat) : Int) ∧ bits .or .u16 ((t.can % 16 : Nat) : Int) (if t.acc then 16 else 0) = ((t.can % 32 : Nat) : Int) ∧ bits .or .u16 ((t.can % 32 : Nat) : Int) (if t.hol then 32 else 0) = ((t.can : Nat) : Int) := by
  cases t <;> decide +kernel

end Go.Proofs.YtdbafcldpleogaaGreatDoor
