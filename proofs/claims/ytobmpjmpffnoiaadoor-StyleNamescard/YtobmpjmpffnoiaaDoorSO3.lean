/-
  A row of numbers in memory that is being sorted; the sort's own calls: change of blocks, rotation.
-/
import Derived.Test.YtobmpjmpffnoiaaDoorW3
import Derived.Test.YtobmpjmpffnoiaaDoorRF
import Derived.Test.YtobmpjmpffnoiaaDoorSO2
namespace Go.Proofs.YtobmpjmpffnoiaaDoor
open Go.RowKit

/-- All but block B lies as it lay. -/
structure Ex (B : Nat) (w W : World) : Prop where
  kept : Kept (· = B) w W
  below : Below B w W
theorem Ex.refl (B : Nat) (w : World) : Ex B w w := ⟨Kept.refl _ _, Below.refl _ _⟩
theorem Ex.trans {B : Nat} {u v w : World} (h : Ex B u v) (k : Ex B v w) : Ex B u w := ⟨h.kept.trans k.kept, h.below.trans k.below⟩
theorem Ex.of {B : Nat} {w W : World} (hB : B ≤ w.heap.size) (h : Below w.heap.size w W) : Ex B w W := ⟨Kept.below h, h.mono hB⟩
theorem Ex.set {B : Nat} {w W : World} (h : Ex B w W) (o : Nat) (v : Value) : Ex B w (W.setCell ⟨B, o, none⟩ v) := ⟨h.kept.set B o v rfl, h.below.setCell (Nat.le_refl _) v⟩
theorem Ex.drewN {B : Nat} {w W : World} (h : Ex B w W) (n : Nat) : Ex B w (W.drewN n) := ⟨⟨h.kept.1, h.kept.2⟩, ⟨h.below.os, h.below.tape, h.below.output, h.below.size, h.below.block⟩⟩

/-- A row of n numbers from cell o of block B on. -/
structure Row (W : World) (B o n : Nat) (f : Nat → Nat) : Prop where
  lt : B < W.heap.size
  at' : ∀ i, i < n → W.cell? ⟨B, o + i, none⟩ = some (.int .i64 (f i))
  fr : ∀ j, W.frozen? ⟨B, j, none⟩ = false
theorem Row.below {W W' : World} {B o n : Nat} {f : Nat → Nat} (h : Row W B o n f) (hb : Below W.heap.size W W') : Row W' B o n f :=
  ⟨Nat.lt_of_lt_of_le h.lt hb.size, fun i hi => (hb.cell (p := ⟨B, o + i, none⟩) h.lt).trans (h.at' i hi), fun j => (hb.frozen (p := ⟨B, j, none⟩) h.lt).trans (h.fr j)⟩
theorem Row.drewN {W : World} {B o n : Nat} {f : Nat → Nat} (h : Row W B o n f) (k : Nat) : Row (W.drewN k) B o n f := ⟨h.lt, h.at', h.fr⟩
theorem Row.drew {W : World} {B o n : Nat} {f : Nat → Nat} (h : Row W B o n f) : Row W.drew B o n f := ⟨h.lt, h.at', h.fr⟩
theorem Ex.drew {B : Nat} {w W : World} (h : Ex B w W) : Ex B w W.drew := ⟨⟨h.kept.1, h.kept.2⟩, ⟨h.below.os, h.below.tape, h.below.output, h.below.size, h.below.block⟩⟩
theorem Row.congr {W : World} {B o n : Nat} {f g : Nat → Nat} (h : Row W B o n f) (e : ∀ i, i < n → g i = f i) : Row W B o n g := ⟨h.lt, fun i hi => by rw [e i hi]; exact h.at' i hi, h.fr⟩
theorem Row.set {W : World} {B o n : Nat} {f : Nat → Nat} (h : Row W B o n f) (k x : Nat) (hk : k < n) : Row (W.setCell ⟨B, o + k, none⟩ (.int .i64 x)) B o n (fun i => if i = k then x else f i) := by
  refine ⟨by simpa [World.setCell] using h.lt, fun i hi => ?_, fun j => by rw [World.frozen?_setCell]; exact h.fr j⟩
  by_cases e : i = k
  · subst e
    rw [if_pos rfl]
    exact World.cell?_setCell_same' _ _ _ (by rw [h.at' i hi]; rfl)
  · rw [if_neg e, World.cell?_setCell_other _ _ _ _ (by intro he; apply e; injection he; omega)]
    exact h.at' i hi
theorem Row.swap {W : World} {B o n : Nat} {f : Nat → Nat} (h : Row W B o n f) (i j : Nat) (hi : i < n) (hj : j < n) : Row ((W.setCell ⟨B, o + i, none⟩ (.int .i64 (f j))).setCell ⟨B, o + j, none⟩ (.int .i64 (f i))) B o n (swp2 f i j) := by
  refine ((h.set i (f j) hi).set j (f i) hj).congr fun k _ => ?_
  unfold swp2
  by_cases h1 : k = j
  · by_cases h2 : k = i
    · rw [if_pos h2, if_pos h1, ← h1, h2]
    · rw [if_neg h2, if_pos h1, if_pos h1]
  · by_cases h2 : k = i
    · rw [if_pos h2, if_neg h1, if_pos h2]
    · rw [if_neg h2, if_neg h1, if_neg h1, if_neg h2]

set_option maxHeartbeats 1000000 in
theorem swapRange_any (B o n cap : Nat) (f : Nat → Nat) (a b k : Nat) (c : Value) (w : World) (hR : Row w B o n f) (hn : n < 1000000) (hab : a + k ≤ b) (hb : b + k ≤ n) :
    Calls Tryd.prog 71 #[.slice (some ⟨B, o, none⟩) n cap, .int .i64 a, .int .i64 b, .int .i64 k, c] w fun e w' => e = .returned (.tuple #[]) ∧ Row w' B o n (swr f a b k) ∧ Ex B w w' := by
  go_enter Tryd.func71, Tryd.ntmps71
  go_wp2_with fail
  go_loopw [10] (fun vi wr => ∃ i : Nat, i ≤ k ∧ vi = .int .i64 i ∧ Row wr B o n (swr f a b i) ∧ Ex B w wr) (fun vi _ => k - (intOf vi).toNat)
  case atStart => exact ⟨0, Nat.zero_le _, rfl, by rw [swr_zero]; exact hR, Ex.refl _ _⟩
  case round =>
    obtain ⟨i, hi, rfl, R, X⟩ := hrel
    by_cases hlt : i < k
    · obtain ⟨i1, e1⟩ : ∃ i1, i1 = a + i := ⟨_, rfl⟩
      obtain ⟨i2, e2⟩ : ∃ i2, i2 = b + i := ⟨_, rfl⟩
      have z1 : (a : Int) + (i : Int) = (i1 : Int) := by omega
      have z2 : (b : Int) + (i : Int) = (i2 : Int) := by omega
      have l1 : (i1 : Int) < (n : Int) := by omega
      have l2 : (i2 : Int) < (n : Int) := by omega
      have c1 := R.at' i1 (by omega)
      have c2 := R.at' i2 (by omega)
      have f1 := R.fr (o + i1)
      have f2 := R.fr (o + i2)
      have HX : Hid (i1 = a + i ∧ i2 = b + i ∧ Row wr B o n (swr f a b i) ∧ Ex B w wr) := ⟨e1, e2, R, X⟩
      have ne : i1 ≠ i2 := by omega
      clear e1 e2 R X hR
      generalize hx1 : swr f a b i i1 = x1 at *
      generalize hx2 : swr f a b i i2 = x2 at *
      have HY : Hid (swr f a b i i1 = x1 ∧ swr f a b i i2 = x2) := ⟨hx1, hx2⟩
      clear hx1 hx2
      go_wp2_with fail
      go_big_region
      all_goals go_wp2
      obtain ⟨e1, e2, R, X⟩ := HX.out
      obtain ⟨y1, y2⟩ := HY.out
      go_roundw
      case rel =>
        refine ⟨i + 1, by omega, by go_num, Row.drew ?_, ((X.set _ _).set _ _).drew⟩
        rw [← swr_succ f a b i k hab hlt, ← e1, ← e2]
        have h := R.swap i1 i2 (by omega) (by omega)
        rw [y1, y2] at h
        exact h
      case measure => simp [intOf]; omega
    · obtain rfl : i = k := by omega
      go_wp2
      go_end0
      exact ⟨rfl, R, X⟩

end Go.Proofs.YtobmpjmpffnoiaaDoor
