/-
  Rules that may be, how strong they are, which of them hold, in plain words.
-/
import Derived.Test.YtobmpjmpffnoiaaDoorSP
import Derived.Test.YtobmpjmpffnoiaaDoorSS
namespace Go.Proofs.YtobmpjmpffnoiaaDoor

def ones (n : Nat) : Nat := Lib.onesCount n
theorem ones_fin : ∀ n : Fin 256, ones n.val ≤ 8 := by decide +kernel
theorem ones_le {n : Nat} (h : n < 256) : ones n ≤ 8 := ones_fin ⟨n, h⟩

/-- How strong a rule is, but for its place. -/
def strg (r : Rl) : Int := 4 * (ones r.state : Int) + (bif r.cls.size == 0 then 0 else 2) + (bif r.kind == 0 then 0 else 1)
theorem strg_bd {r : Rl} (h : r.state < 256) : 0 ≤ strg r ∧ strg r ≤ 35 := by
  have := ones_le h
  unfold strg
  cases r.cls.size == 0 <;> cases r.kind == 0 <;> simp <;> omega

/-- May a look be? -/
def okL (k : Lk) : Bool := decide (k.has < 16) && decide (0 ≤ k.pad) && decide (k.pad ≤ 16384) && (tb k.has 0 || (k.r == 0 && (k.g == 0 && (k.b == 0 && k.a == 0)))) && (tb k.has 1 || (k.r2 == 0 && (k.g2 == 0 && (k.b2 == 0 && k.a2 == 0)))) && (tb k.has 2 || !k.bd) && (tb k.has 3 || k.pad == 0)
def okC (c : ByteArray) : Bool := decide (c.size ≤ 64) && !decide (0 ≤ Lib.indexByte c.data.toList 32) && Lib.validD c.data.toList
def okR (r : Rl) : Bool := decide (r.kind ≤ 10) && okC r.cls && decide (r.state ≤ 15) && okL r.look
/-- What a rule is like of which Go's types hold. -/
def Rl.wf (r : Rl) : Prop := r.kind < 256 ∧ r.state < 256 ∧ r.look.has < 256
def chkR (rs : List Rl) : Int := if 256 < rs.length then 4 else if rs.all okR then 0 else 50

def eqL (x y : Lk) : Bool := (((x.has : Int) == (y.has : Int)) && ((x.r == y.r) && ((x.g == y.g) && ((x.b == y.b) && ((x.a == y.a) && ((x.r2 == y.r2) && ((x.g2 == y.g2) && ((x.b2 == y.b2) && ((x.a2 == y.a2) && ((x.bd == y.bd) && (x.pad == y.pad)))))))))))
theorem eqL_iff (x y : Lk) : eqL x y = true ↔ x = y := by
  cases x; cases y
  unfold eqL
  simp
  omega
theorem eqL_refl (x : Lk) : eqL x x = true := (eqL_iff x x).2 rfl

set_option maxRecDepth 100000 in
theorem and15 : ∀ n : Fin 256, tb (15 &&& n.val) 0 = tb n.val 0 ∧ tb (15 &&& n.val) 1 = tb n.val 1 ∧ tb (15 &&& n.val) 2 = tb n.val 2 ∧ tb (15 &&& n.val) 3 = tb n.val 3 ∧ ((n.val == (0 ||| (15 &&& n.val))) = decide (n.val < 16)) := by decide +kernel
theorem okL_eq {k : Lk} (h : k.has < 256) : (eqL k (tk Lk.zero k 15) && (decide (0 ≤ k.pad) && decide (k.pad ≤ 16384))) = okL k := by
  obtain ⟨e0, e1, e2, e3, e4⟩ := and15 ⟨k.has, h⟩
  simp only at e0 e1 e2 e3 e4
  have e5 : ((k.has : Int) == ((0 ||| (15 &&& k.has) : Nat) : Int)) = decide (k.has < 16) := by
    rw [← e4]
    exact Bool.eq_iff_iff.2 (by rw [beq_iff_eq, beq_iff_eq]; exact Int.ofNat_inj)
  unfold eqL okL tk
  simp only [Lk.zero, e0, e1, e2, e3, e5]
  generalize decide (k.has < 16) = p
  generalize decide (0 ≤ k.pad) = p1
  generalize decide (k.pad ≤ 16384) = p2
  cases tb k.has 0 <;> cases tb k.has 1 <;> cases tb k.has 2 <;> cases tb k.has 3 <;> cases k.bd <;> simp [Bool.and_assoc, Bool.and_comm, Bool.and_left_comm]

end Go.Proofs.YtobmpjmpffnoiaaDoor
