/-
  Parts in plain words: nodes, what may be, abilities of the kinds.
-/
import Derived.Lib.ValidU
import Derived.Test.YtbnbfgkcndomaabGreatDoorPlain
namespace Go.Proofs.YtbnbfgkcndomaabGreatDoor

/-- A node. -/
structure Nd where
  kind : Nat
  name : ByteArray
  cls : ByteArray
  text : ByteArray
  minW : Int
  minH : Int
  maxW : Int
  maxH : Int
  grow : Int
  order : Int
  column : Bool
  columns : Int
  span : Int
  gap : Int
  offX : Int
  offY : Int
  hidden : Bool
  wA : Option Addr
  wN : Nat
  wC : Nat
  kA : Option Addr
  kN : Nat
  kC : Nat

/-- From low to high. -/
def fromTo (n lo hi : Int) : Bool := decide (lo ≤ n) && decide (n ≤ hi)
def sideB (n : Int) : Bool := fromTo n 0 16384
def txB (s : ByteArray) (m : Nat) : Bool := decide (s.size ≤ m) && Lib.validD s.data.toList
def szB (w h : Int) : Bool := sideB w && sideB h
def moB (lo hi : Int) : Bool := (hi == 0) || decide (lo ≤ hi)
def kindB (k : Nat) : Bool := decide (1 ≤ k) && decide (k ≤ 10)
def okN (n : Nd) : Bool :=
  txB n.name 64 && (txB n.cls 64 && (txB n.text 65536 && (szB n.minW n.minH && (szB n.maxW n.maxH && (moB n.minW n.maxW && (moB n.minH n.maxH && (sideB n.grow && (fromTo n.order (-1) 1048576 && (fromTo n.columns 0 64 && (fromTo n.span 0 64 && (sideB n.gap && (fromTo n.offX 0 1048576 && fromTo n.offY 0 1048576))))))))))))
/-- How many parts a kind may hold. -/
def mostP (k : Nat) : Int := if k = 4 ∨ k = 5 ∨ k = 10 then 1024 else if k = 6 then 1 else 0
/-- What Make answers. -/
def makE (n : Nd) (l : Int) : Int := if kindB n.kind = false then 60 else if okN n = false then 2 else if 1024 < l then 4 else if mostP n.kind < l then 61 else 0
/-- The abilities of a kind. -/
def canK (k : Nat) : Nat :=
  if k = 1 ∨ k = 7 then 3 else if k = 2 then 7 else if k = 3 then 23 else if k = 4 ∨ k = 5 ∨ k = 10 then 33 else if k = 6 then 47 else if k = 8 then 2 else if k = 9 then 1 else 0

/-- Seven types. -/
inductive Ty where
  | label | button | field | box | scroll | canvas | gap
def Ty.id : Ty → Nat
  | .label => 183 | .button => 184 | .field => 185 | .box => 186 | .scroll => 187 | .canvas => 188 | .gap => 189
def Ty.can : Ty → Nat
  | .label => 3 | .button => 7 | .field => 23 | .box => 33 | .scroll => 47 | .canvas => 2 | .gap => 1
def tyOf (k : Nat) : Ty :=
  if k = 1 ∨ k = 7 then .label else if k = 2 then .button else if k = 3 then .field else if k = 4 ∨ k = 5 ∨ k = 10 then .box else if k = 6 then .scroll else if k = 8 then .canvas else .gap
theorem kind_cases {k : Nat} (h : kindB k = true) : k = 1 ∨ k = 2 ∨ k = 3 ∨ k = 4 ∨ k = 5 ∨ k = 6 ∨ k = 7 ∨ k = 8 ∨ k = 9 ∨ k = 10 := by
  simp only [kindB, Bool.and_eq_true, decide_eq_true_eq] at h
  omega
theorem can_ty {k : Nat} (h : kindB k = true) : canK k = (tyOf k).can := by
  rcases kind_cases h with rfl | rfl | rfl | rfl | rfl | rfl | rfl | rfl | rfl | rfl <;> rfl
theorem can_none {k : Nat} (h : kindB k = false) : canK k = 0 := by
  have : ¬ (1 ≤ k ∧ k ≤ 10) := by
    intro ⟨h1, h2⟩
    simp [kindB, h1, h2] at h
  unfold canK
  repeat (first | rw [if_neg (by omega)] | rfl)
theorem can_pos {k : Nat} (h : kindB k = true) : 0 < canK k := by
  rcases kind_cases h with rfl | rfl | rfl | rfl | rfl | rfl | rfl | rfl | rfl | rfl <;> decide

end Go.Proofs.YtbnbfgkcndomaabGreatDoor
