/-
  Looks and rules, in plain words.
-/
import Derived.Test.YtbnbfgkcndomaabGreatDoorRows
namespace Go.Proofs.YtbnbfgkcndomaabGreatDoor

structure Lk where
  has : Nat
  r : Int
  g : Int
  b : Int
  a : Int
  r2 : Int
  g2 : Int
  b2 : Int
  a2 : Int
  bd : Bool
  pad : Int

structure Rl where
  kind : Nat
  cls : ByteArray
  state : Nat
  look : Lk

/-- Is bit i of n set? -/
def tb (n i : Nat) : Bool := n / 2 ^ i % 2 == 1
def h4 (b0 b1 b2 b3 : Bool) : Nat := b0.toNat + 2 * b1.toNat + 4 * b2.toNat + 8 * b3.toNat
def Lk.zero : Lk := ⟨0, 0, 0, 0, 0, 0, 0, 0, 0, false, 0⟩

/-- A look with what another one tells of the things that are still wanted. -/
def tk (k f : Lk) (q : Nat) : Lk :=
  { has := k.has ||| (q &&& f.has)
    r := bif tb (q &&& f.has) 0 then f.r else k.r
    g := bif tb (q &&& f.has) 0 then f.g else k.g
    b := bif tb (q &&& f.has) 0 then f.b else k.b
    a := bif tb (q &&& f.has) 0 then f.a else k.a
    r2 := bif tb (q &&& f.has) 1 then f.r2 else k.r2
    g2 := bif tb (q &&& f.has) 1 then f.g2 else k.g2
    b2 := bif tb (q &&& f.has) 1 then f.b2 else k.b2
    a2 := bif tb (q &&& f.has) 1 then f.a2 else k.a2
    bd := bif tb (q &&& f.has) 2 then f.bd else k.bd
    pad := bif tb (q &&& f.has) 3 then f.pad else k.pad }

/-- The first look that tells thing i. -/
def pick (l : List Lk) (i : Nat) : Option Lk := l.find? fun f => tb f.has i
def pk {α : Type} (l : List Lk) (i : Nat) (g : Lk → α) (z : α) : α := match pick l i with | some f => g f | none => z

/-- What looks tell together, the strongest one first. -/
def ly (l : List Lk) : Lk :=
  { has := h4 (pick l 0).isSome (pick l 1).isSome (pick l 2).isSome (pick l 3).isSome
    r := pk l 0 (·.r) 0
    g := pk l 0 (·.g) 0
    b := pk l 0 (·.b) 0
    a := pk l 0 (·.a) 0
    r2 := pk l 1 (·.r2) 0
    g2 := pk l 1 (·.g2) 0
    b2 := pk l 1 (·.b2) 0
    a2 := pk l 1 (·.a2) 0
    bd := pk l 2 (·.bd) false
    pad := pk l 3 (·.pad) 0 }

theorem ly_nil : ly [] = Lk.zero := rfl
theorem ly_has (l : List Lk) : (ly l).has < 16 := by
  show h4 _ _ _ _ < 16
  cases (pick l 0).isSome <;> cases (pick l 1).isSome <;> cases (pick l 2).isSome <;> cases (pick l 3).isSome <;> decide

theorem pick_snoc (l : List Lk) (f : Lk) (i : Nat) : pick (l ++ [f]) i = (pick l i).or (bif tb f.has i then some f else none) := by
  unfold pick
  rw [List.find?_append]
  cases h : tb f.has i <;> simp [List.find?, h]
theorem isSome_snoc (l : List Lk) (f : Lk) (i : Nat) : (pick (l ++ [f]) i).isSome = ((pick l i).isSome || tb f.has i) := by
  rw [pick_snoc]
  cases pick l i <;> cases tb f.has i <;> rfl
theorem pk_snoc {α : Type} (l : List Lk) (f : Lk) (i : Nat) (g : Lk → α) (z : α) : pk (l ++ [f]) i g z = bif (!(pick l i).isSome && tb f.has i) then g f else pk l i g z := by
  unfold pk
  rw [pick_snoc]
  cases pick l i <;> cases tb f.has i <;> rfl

def lft (b0 b1 b2 b3 : Bool) : Nat := 15 - h4 b0 b1 b2 b3
set_option maxRecDepth 100000 in
theorem tb_left : ∀ (b0 b1 b2 b3 : Bool) (n : Fin 256), (tb (lft b0 b1 b2 b3 &&& n.val) 0 = (!b0 && tb n.val 0)) ∧ (tb (lft b0 b1 b2 b3 &&& n.val) 1 = (!b1 && tb n.val 1)) ∧ (tb (lft b0 b1 b2 b3 &&& n.val) 2 = (!b2 && tb n.val 2)) ∧ (tb (lft b0 b1 b2 b3 &&& n.val) 3 = (!b3 && tb n.val 3)) ∧
    (h4 b0 b1 b2 b3 ||| (lft b0 b1 b2 b3 &&& n.val)) = h4 (b0 || tb n.val 0) (b1 || tb n.val 1) (b2 || tb n.val 2) (b3 || tb n.val 3) := by decide +kernel

/-- What is still wanted behind looks. -/
def wn (l : List Lk) : Nat := lft (pick l 0).isSome (pick l 1).isSome (pick l 2).isSome (pick l 3).isSome
theorem wn_lt (l : List Lk) : wn l < 16 := by
  unfold wn lft; omega

theorem ly_snoc (l : List Lk) (f : Lk) (hf : f.has < 256) : ly (l ++ [f]) = tk (ly l) f (wn l) := by
  obtain ⟨e0, e1, e2, e3, e4⟩ := tb_left (pick l 0).isSome (pick l 1).isSome (pick l 2).isSome (pick l 3).isSome ⟨f.has, hf⟩
  simp only at e0 e1 e2 e3 e4
  unfold ly tk
  simp only [wn, e0, e1, e2, e3, e4, isSome_snoc, pk_snoc]

/-- What a look that is behind takes out of what is wanted. -/
def wo (q n : Nat) : Nat := q - (q &&& n)
set_option maxRecDepth 100000 in
theorem wo_left : ∀ (b0 b1 b2 b3 : Bool) (n : Fin 256), wo (lft b0 b1 b2 b3) n.val = lft (b0 || tb n.val 0) (b1 || tb n.val 1) (b2 || tb n.val 2) (b3 || tb n.val 3) := by decide +kernel
theorem wn_snoc (l : List Lk) (f : Lk) (hf : f.has < 256) : wn (l ++ [f]) = wo (wn l) f.has := by
  have e := wo_left (pick l 0).isSome (pick l 1).isSome (pick l 2).isSome (pick l 3).isSome ⟨f.has, hf⟩
  simp only at e
  unfold wn
  rw [e]
  simp only [isSome_snoc]

end Go.Proofs.YtbnbfgkcndomaabGreatDoor
