/-
  Sixteens written: package colour's high, low, isTwice.
-/
import Derived.Test.YtbppadheejdhcaaDoorCT1
namespace Go.Proofs.YtbppadheejdhcaaDoor
open Go.RowKit

/-- The small sixteen that stands for a number. -/
def sx (n : Nat) : Nat := if n < 10 then 48 + n else 87 + n
theorem and15u : ∀ x : Fin 256, bits .and .u8 (x.val : Int) 15 = ((x.val % 16 : Nat) : Int) := by decide +kernel
theorem dig_at : ∀ x : Fin 16, ((⟨#[48, 49, 50, 51, 52, 53, 54, 55, 56, 57, 97, 98, 99, 100, 101, 102]⟩ : ByteArray)[x.val]'(by have := x.isLt; simp [ByteArray.size])).toNat = sx x.val := by decide +kernel

set_option maxHeartbeats 400000 in
theorem low_any (x : Nat) (w : World) (hx : x < 256) :
    Calls Tryd.prog 21 #[.int .u8 x] w fun e w' => e = .returned (.int .u8 (sx (x % 16) : Nat)) ∧ w' = w := by
  have h1 := and15u ⟨x, hx⟩
  simp only at h1
  have h2 := dig_at ⟨x % 16, Nat.mod_lt _ (by decide)⟩
  simp only at h2
  obtain ⟨q, hq⟩ : ∃ q, q = x % 16 := ⟨_, rfl⟩
  have hq16 : q < 16 := by omega
  rw [← hq] at h1 
  have HD : Hid (∀ h : q < 16, ((⟨#[48, 49, 50, 51, 52, 53, 54, 55, 56, 57, 97, 98, 99, 100, 101, 102]⟩ : ByteArray)[q]'(by simpa [ByteArray.size] using h)).toNat = sx q) := fun h => dig_at ⟨q, h⟩
  rw [← hq]
  clear h2 hq
  go_enter Tryd.func21, Tryd.ntmps21
  go_wp2
  go_ret
  exact ⟨congrArg (fun z : Nat => Ending.returned (.int .u8 z)) (HD.out hq16), rfl⟩

set_option maxHeartbeats 400000 in
theorem high_any (x : Nat) (w : World) (hx : x < 256) :
    Calls Tryd.prog 22 #[.int .u8 x] w fun e w' => e = .returned (.int .u8 (sx (x / 16) : Nat)) ∧ w' = w := by
  obtain ⟨q, hq⟩ : ∃ q, q = x / 16 := ⟨_, rfl⟩
  have hq16 : q < 16 := by omega
  have HD : Hid (∀ h : q < 16, ((⟨#[48, 49, 50, 51, 52, 53, 54, 55, 56, 57, 97, 98, 99, 100, 101, 102]⟩ : ByteArray)[q]'(by simpa [ByteArray.size] using h)).toNat = sx q) := fun h => dig_at ⟨q, h⟩
  have hq' : (x : Int) / 16 = (q : Int) := by omega
  rw [← hq]
  clear hq
  go_enter Tryd.func22, Tryd.ntmps22
  go_wp2
  go_ret
  exact ⟨congrArg (fun z : Nat => Ending.returned (.int .u8 z)) (HD.out hq16), rfl⟩

theorem sx_inj {a b : Nat} (ha : a < 16) (hb : b < 16) : (sx a == sx b) = (a == b) := by
  unfold sx
  rw [Bool.eq_iff_iff]
  simp only [beq_iff_eq]
  split <;> split <;> omega

set_option maxHeartbeats 400000 in
theorem isTwice_any (x : Nat) (w : World) (hx : x < 256) :
    Calls Tryd.prog 20 #[.int .u8 x] w fun e w' => e = .returned (.bool (sx (x / 16) == sx (x % 16))) ∧ w' = w := by
  have HH : Hid (∀ w, Calls Tryd.prog 22 #[.int .u8 x] w fun e w' => e = .returned (.int .u8 (sx (x / 16) : Nat)) ∧ w' = w) := fun w => high_any x w hx
  have HL : Hid (∀ w, Calls Tryd.prog 21 #[.int .u8 x] w fun e w' => e = .returned (.int .u8 (sx (x % 16) : Nat)) ∧ w' = w) := fun w => low_any x w hx
  generalize sx (x / 16) = p at *
  generalize sx (x % 16) = q at *
  go_enter Tryd.func20, Tryd.ntmps20
  go_wp2_with (first | (go_at_call 22; refine (HH.out _).mono ?_; rintro e w' ⟨rfl, rfl⟩) | (go_at_call 21; refine (HL.out _).mono ?_; rintro e w' ⟨rfl, rfl⟩))
  go_ret
  exact ⟨ret_bool (by simp; try omega), rfl⟩

end Go.Proofs.YtbppadheejdhcaaDoor
