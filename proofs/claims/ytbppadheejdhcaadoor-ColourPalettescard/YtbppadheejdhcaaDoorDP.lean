/-
  Palettes in plain numbers: the colour of a number, how far colours are apart, the nearest one.
-/
import Derived.Test.YtbppadheejdhcaaDoorCP
namespace Go.Proofs.YtbppadheejdhcaaDoor

def fewL : List Int := [0, 8388608, 32768, 8421376, 128, 8388736, 32896, 12632256, 8421504, 16711680, 65280, 16776960, 255, 16711935, 65535, 16777215]
def levL : List Int := [0, 95, 135, 175, 215, 255]
def fewN (j : Nat) : Int := fewL.getD j 0
def levN (j : Nat) : Int := levL.getD j 0
/-- The colour of a number in the palette of 256. -/
def bkM (n : Nat) : Co :=
  if n < 16 then ⟨fewN n / 65536 % 256, fewN n / 256 % 256, fewN n % 256, 255⟩
  else if n < 232 then ⟨levN ((n - 16) / 36), levN ((n - 16) / 6 % 6), levN ((n - 16) % 6), 255⟩
  else ⟨((n : Int) - 232) * 10 + 8, ((n : Int) - 232) * 10 + 8, ((n : Int) - 232) * 10 + 8, 255⟩
def bk (n : Nat) (many : Bool) : Co := if many then bkM n else bkM (n % 16)

theorem few_bd : ∀ j : Fin 16, 0 ≤ fewN j.val ∧ fewN j.val ≤ 16777215 := by decide
theorem lev_bd : ∀ j : Fin 6, 0 ≤ levN j.val ∧ levN j.val ≤ 255 := by decide
theorem bkM_ok {n : Nat} (h : n < 256) : (bkM n).ok ∧ (bkM n).a = 255 := by
  unfold bkM
  split
  · refine ⟨⟨⟨?_, ?_⟩, ⟨?_, ?_⟩, ⟨?_, ?_⟩, ⟨?_, ?_⟩⟩, rfl⟩ <;> dsimp only <;> omega
  · split
    · have h1 := lev_bd ⟨(n - 16) / 36, by omega⟩
      have h2 := lev_bd ⟨(n - 16) / 6 % 6, by omega⟩
      have h3 := lev_bd ⟨(n - 16) % 6, by omega⟩
      exact ⟨⟨h1, h2, h3, ⟨by show (0 : Int) ≤ 255; decide, by show (255 : Int) ≤ 255; decide⟩⟩, rfl⟩
    · refine ⟨⟨⟨?_, ?_⟩, ⟨?_, ?_⟩, ⟨?_, ?_⟩, ⟨?_, ?_⟩⟩, rfl⟩ <;> dsimp only <;> omega
theorem bk_ok {n : Nat} (h : n < 256) (m : Bool) : (bk n m).ok ∧ (bk n m).a = 255 := by
  cases m
  · exact bkM_ok (n := n % 16) (by omega)
  · exact bkM_ok h

def sq (x y : Int) : Int := (x - y) * (x - y)
def farI (a b : Co) : Int := 2 * sq a.r b.r + 4 * sq a.g b.g + 3 * sq a.b b.b
theorem sq_bd {x y : Int} (hx : By x) (hy : By y) : 0 ≤ sq x y ∧ sq x y ≤ 65025 := by
  obtain ⟨x1, x2⟩ := hx
  obtain ⟨y1, y2⟩ := hy
  unfold sq
  rcases Int.le_total y x with h | h
  · exact ⟨Int.mul_nonneg (by omega) (by omega), Int.le_trans (Int.mul_le_mul (a := x - y) (c := 255) (b := x - y) (d := 255) (by omega) (by omega) (by omega) (by omega)) (by decide)⟩
  · have e : (x - y) * (x - y) = (y - x) * (y - x) := by
      rw [show x - y = -(y - x) by omega, Int.neg_mul_neg]
    rw [e]
    exact ⟨Int.mul_nonneg (by omega) (by omega), Int.le_trans (Int.mul_le_mul (a := y - x) (c := 255) (b := y - x) (d := 255) (by omega) (by omega) (by omega) (by omega)) (by decide)⟩
theorem sq_zero {x y : Int} (h : sq x y = 0) : x = y := by
  unfold sq at h
  rcases Int.mul_eq_zero.1 h with h | h <;> omega
theorem sq_self (x : Int) : sq x x = 0 := by unfold sq; rw [Int.sub_self]; rfl
theorem far_bd {a b : Co} (ha : a.ok) (hb : b.ok) : 0 ≤ farI a b ∧ farI a b ≤ 585225 := by
  have h1 := sq_bd ha.1 hb.1
  have h2 := sq_bd ha.2.1 hb.2.1
  have h3 := sq_bd ha.2.2.1 hb.2.2.1
  unfold farI
  omega
theorem far_zero {a b : Co} (ha : a.ok) (hb : b.ok) (h : farI a b = 0) (e : a.a = b.a) : a = b := by
  have h1 := sq_bd ha.1 hb.1
  have h2 := sq_bd ha.2.1 hb.2.1
  have h3 := sq_bd ha.2.2.1 hb.2.2.1
  unfold farI at h
  have e1 := sq_zero (x := a.r) (y := b.r) (by omega)
  have e2 := sq_zero (x := a.g) (y := b.g) (by omega)
  have e3 := sq_zero (x := a.b) (y := b.b) (by omega)
  cases a; cases b
  simp_all
theorem far_self (a : Co) : farI a a = 0 := by unfold farI; rw [sq_self, sq_self, sq_self]; rfl

/-- The first of the least among so many. -/
def nst (d : Nat → Int) : Nat → Nat
  | 0 => 0
  | n + 1 => if n = 0 then 0 else if d n < d (nst d n) then n else nst d n
theorem nst_spec (d : Nat → Int) : ∀ n, 0 < n → nst d n < n ∧ (∀ j, j < n → d (nst d n) ≤ d j) ∧ ∀ j, j < nst d n → d (nst d n) < d j
  | 0, h => absurd h (by omega)
  | n + 1, _ => by
    unfold nst
    by_cases h0 : n = 0
    · rw [if_pos h0]
      subst h0
      exact ⟨by omega, fun j hj => by rw [show j = 0 by omega]; omega, fun j hj => absurd hj (by omega)⟩
    · rw [if_neg h0]
      obtain ⟨i1, i2, i3⟩ := nst_spec d n (by omega)
      by_cases h : d n < d (nst d n)
      · rw [if_pos h]
        refine ⟨by omega, fun j hj => ?_, fun j hj => ?_⟩
        · by_cases e : j = n
          · rw [e]; omega
          · have := i2 j (by omega); omega
        · have := i2 j hj; omega
      · rw [if_neg h]
        refine ⟨by omega, fun j hj => ?_, i3⟩
        by_cases e : j = n
        · rw [e]; omega
        · exact i2 j (by omega)

/-- The number of the nearest colour. -/
def nearN (c : Co) (count : Nat) (many : Bool) : Nat := nst (fun j => farI (onB c) (bk j many)) count
theorem sixteen_back : ∀ n : Fin 16, nearN (bk n.val false) 16 false = n.val := by decide +kernel
theorem bk_twice (n : Nat) : bk (n % 16) false = bk n false := by
  unfold bk
  simp
theorem bk_low {n : Nat} (h : n < 16) (m : Bool) : bk n m = bkM n := by
  cases m
  · show bkM (n % 16) = _
    rw [Nat.mod_eq_of_lt h]
  · rfl
theorem back_many {m : Nat} (h : m < 256) : bk (nearN (bk m true) 256 true) true = bk m true := by
  have hok := bk_ok h true
  obtain ⟨h1, h2, _⟩ := nst_spec (fun j => farI (onB (bk m true)) (bk j true)) 256 (by decide)
  have hk := h2 m h
  rw [onB_opaque hok.2] at hk h1
  simp only [far_self] at hk
  have hk2 := bk_ok h1 true
  unfold nearN
  rw [onB_opaque hok.2]
  have h0 := far_bd hok.1 hk2.1
  exact (far_zero hok.1 hk2.1 (by omega) (by rw [hok.2, hk2.2])).symm

end Go.Proofs.YtbppadheejdhcaaDoor
