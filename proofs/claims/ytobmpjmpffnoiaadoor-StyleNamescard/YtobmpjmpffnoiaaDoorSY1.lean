/-
  The document's answer: a look with another one beneath.
-/
import Derived.Test.YtobmpjmpffnoiaaDoorSW2
import Derived.Test.YtobmpjmpffnoiaaDoorSP2
namespace Go.Proofs.YtobmpjmpffnoiaaDoor
open Go.RowKit

set_option maxRecDepth 100000 in
theorem or15_fin : ∀ (a b : Fin 256), bits .and .u8 (bits .or .u8 ((a.val : Nat) : Int) ((b.val : Nat) : Int)) 15 = ((h4 (tb a.val 0 || tb b.val 0) (tb a.val 1 || tb b.val 1) (tb a.val 2 || tb b.val 2) (tb a.val 3 || tb b.val 3) : Nat) : Int) := by decide +kernel
theorem bit_fin8 : ∀ (q : Fin 256), (bits .and .u8 ((q.val : Nat) : Int) 1 != 0) = tb q.val 0 ∧ (bits .and .u8 ((q.val : Nat) : Int) 2 != 0) = tb q.val 1 ∧ (bits .and .u8 ((q.val : Nat) : Int) 4 != 0) = tb q.val 2 ∧ (bits .and .u8 ((q.val : Nat) : Int) 8 != 0) = tb q.val 3 := by decide +kernel

def un (a b : Lk) : Lk :=
  { has := h4 (tb a.has 0 || tb b.has 0) (tb a.has 1 || tb b.has 1) (tb a.has 2 || tb b.has 2) (tb a.has 3 || tb b.has 3)
    r := bif tb a.has 0 then a.r else bif tb b.has 0 then b.r else 0
    g := bif tb a.has 0 then a.g else bif tb b.has 0 then b.g else 0
    b := bif tb a.has 0 then a.b else bif tb b.has 0 then b.b else 0
    a := bif tb a.has 0 then a.a else bif tb b.has 0 then b.a else 0
    r2 := bif tb a.has 1 then a.r2 else bif tb b.has 1 then b.r2 else 0
    g2 := bif tb a.has 1 then a.g2 else bif tb b.has 1 then b.g2 else 0
    b2 := bif tb a.has 1 then a.b2 else bif tb b.has 1 then b.b2 else 0
    a2 := bif tb a.has 1 then a.a2 else bif tb b.has 1 then b.a2 else 0
    bd := bif tb a.has 2 then a.bd else bif tb b.has 2 then b.bd else false
    pad := bif tb a.has 3 then a.pad else bif tb b.has 3 then b.pad else 0 }
theorem pick2 (a b : Lk) (i : Nat) : pick [a, b] i = bif tb a.has i then some a else bif tb b.has i then some b else none := by
  unfold pick
  cases h : tb a.has i <;> cases h' : tb b.has i <;> simp [List.find?, h, h']
theorem un_ly (a b : Lk) : ly [a, b] = un a b := by
  unfold ly un pk
  simp only [pick2]
  cases tb a.has 0 <;> cases tb a.has 1 <;> cases tb a.has 2 <;> cases tb a.has 3 <;> cases tb b.has 0 <;> cases tb b.has 1 <;> cases tb b.has 2 <;> cases tb b.has 3 <;> rfl

end Go.Proofs.YtobmpjmpffnoiaaDoor
