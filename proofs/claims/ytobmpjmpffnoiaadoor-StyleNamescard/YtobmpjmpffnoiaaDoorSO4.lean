/-
  The sort's own calls: rotation.
-/
import Derived.Test.YtobmpjmpffnoiaaDoorSO3
namespace Go.Proofs.YtobmpjmpffnoiaaDoor
open Go.RowKit

set_option maxHeartbeats 1000000 in
theorem rotate_any (B o n cap : Nat) (f : Nat → Nat) (a m b : Nat) (c : Value) (w : World) (hR : Row w B o n f) (hn : n < 1000000) (ham : a < m) (hmb : m < b) (hb : b ≤ n) :
    Calls Tryd.prog 68 #[.slice (some ⟨B, o, none⟩) n cap, .int .i64 a, .int .i64 m, .int .i64 b, c] w fun e w' => e = .returned (.tuple #[]) ∧ Row w' B o n (rot f a m b) ∧ Ex B w w' := by
  have hS : Hid (∀ (g : Nat → Nat) (x y k : Nat) (w : World), Row w B o n g → x + k ≤ y → y + k ≤ n → Calls Tryd.prog 71 #[.slice (some ⟨B, o, none⟩) n cap, .int .i64 x, .int .i64 y, .int .i64 k, c] w fun e w' => e = .returned (.tuple #[]) ∧ Row w' B o n (swr g x y k) ∧ Ex B w w') :=
    fun g x y k w h1 h2 h3 => swapRange_any B o n cap g x y k c w h1 hn h2 h3
  go_enter Tryd.func68, Tryd.ntmps68
  go_wp2_with fail
  go_loopw [10, 11] (fun vi vj wr => ∃ (i j : Nat) (g : Nat → Nat), vi = .int .i64 i ∧ vj = .int .i64 j ∧ 0 < i ∧ 0 < j ∧ i ≤ m ∧ m + j ≤ n ∧ Row wr B o n g ∧ rot g (m - i) m (m + j) = rot f a m b ∧ Ex B w wr) (fun vi vj _ => (intOf vi).toNat + (intOf vj).toNat)
  case atStart => exact ⟨m - a, b - m, f, by congr 1; omega, by congr 1; omega, by omega, by omega, by omega, by omega, hR, by rw [show m - (m - a) = a by omega, show m + (b - m) = b by omega], Ex.refl _ _⟩
  case round =>
    obtain ⟨i, j, g, rfl, rfl, i0, j0, im, mj, R, E, X⟩ := hrel
    obtain ⟨x, ex⟩ : ∃ x, x = m - i := ⟨_, rfl⟩
    have z1 : (m : Int) - (i : Int) = (x : Int) := by omega
    have HX : Hid (x = m - i ∧ Row wr B o n g ∧ rot g (m - i) m (m + j) = rot f a m b ∧ Ex B w wr) := ⟨ex, R, E, X⟩
    clear ex R E X hR
    by_cases hij : i = j
    · subst hij
      go_wp2_with fail
      refine (hS.out g x m i wr HX.out.2.1 (by have := HX.out.1; omega) mj).mono ?_
      rintro e w1 ⟨rfl, R1, X1⟩
      obtain ⟨ex, R, E, X⟩ := HX.out
      rw [ex, rot_same g m i im, E] at R1
      have HF : Hid (Row w1 B o n (rot f a m b) ∧ Ex B w w1) := ⟨R1, X.trans X1⟩
      clear R1 X1 ex R E X
      go_wp2
      go_end0
      exact ⟨rfl, HF.out.1, HF.out.2⟩
    · have hne : ((i : Int) == (j : Int)) = false := beq_eq_false_iff_ne.2 (by omega)
      by_cases hgt : j < i
      · go_wp2_with fail
        refine (hS.out g x m j wr HX.out.2.1 (by have := HX.out.1; omega) mj).mono ?_
        rintro e w1 ⟨rfl, R1, X1⟩
        obtain ⟨ex, R, E, X⟩ := HX.out
        rw [ex] at R1
        have HF : Hid (Row w1 B o n (swr g (m - i) m j) ∧ rot (swr g (m - i) m j) (m - (i - j)) m (m + j) = rot f a m b ∧ Ex B w w1) := ⟨R1, (rot_more g m i j im hgt).trans E, X.trans X1⟩
        clear R1 X1 ex R E X
        go_wp2
        go_roundw
        case rel => exact ⟨i - j, j, _, by congr 1; omega, rfl, by omega, j0, by omega, mj, HF.out.1, HF.out.2.1, HF.out.2.2⟩
        case measure => simp [intOf]; omega
      · obtain ⟨y, ey⟩ : ∃ y, y = m + j - i := ⟨_, rfl⟩
        have z2 : (m : Int) + (j : Int) - (i : Int) = (y : Int) := by omega
        have HY : Hid (y = m + j - i) := ey
        clear ey
        go_wp2_with fail
        refine (hS.out g x y i wr HX.out.2.1 (by have := HX.out.1; have := HY.out; omega) (by have := HY.out; omega)).mono ?_
        rintro e w1 ⟨rfl, R1, X1⟩
        obtain ⟨ex, R, E, X⟩ := HX.out
        rw [ex, HY.out] at R1
        have HF : Hid (Row w1 B o n (swr g (m - i) (m + j - i) i) ∧ rot (swr g (m - i) (m + j - i) i) (m - i) m (m + (j - i)) = rot f a m b ∧ Ex B w w1) := ⟨R1, (rot_less g m i j im (by omega)).trans E, X.trans X1⟩
        clear R1 X1 ex R E X
        go_wp2
        go_roundw
        case rel => exact ⟨i, j - i, _, rfl, by congr 1; omega, i0, by omega, im, by omega, HF.out.1, HF.out.2.1, HF.out.2.2⟩
        case measure => simp [intOf]; omega

end Go.Proofs.YtobmpjmpffnoiaaDoor
