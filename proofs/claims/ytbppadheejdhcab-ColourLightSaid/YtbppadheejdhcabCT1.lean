/-
  Contracts of package colour: sixteens, how many bytes belong.
-/
import Derived.Test.YtbppadheejdhcabCW1
import Derived.Test.YtbppadheejdhcabCTP
namespace Go.Proofs.Ytbppadheejdhcab
open Go.RowKit

set_option maxHeartbeats 400000 in
theorem isSixteen_any (b : Nat) (w : World) :
    Calls Try.prog 16 #[.int .u8 b] w fun e w' => e = .returned (.bool (six b)) ∧ w' = w := by
  have hs := @six_iff b
  have cs : (48 ≤ b ∧ b ≤ 57) ∨ b < 48 ∨ (57 < b ∧ b < 65) ∨ (65 ≤ b ∧ b ≤ 70) ∨ (70 < b ∧ b < 97) ∨ (97 ≤ b ∧ b ≤ 102) ∨ 102 < b := by omega
  have HS : Hid (six b = true ↔ (48 ≤ b ∧ b ≤ 57) ∨ (97 ≤ b ∧ b ≤ 102) ∨ (65 ≤ b ∧ b ≤ 70)) := hs
  clear hs
  rcases cs with ⟨c1, c2⟩ | c1 | ⟨c1, c2⟩ | ⟨c1, c2⟩ | ⟨c1, c2⟩ | ⟨c1, c2⟩ | c1
  all_goals
    go_enter Try.func16, Try.ntmps16
    go_wp2
    go_ret
    refine ⟨ret_bool ?_, rfl⟩
    rw [HS.out]
    simp
    try omega

set_option maxHeartbeats 400000 in
theorem value_any (b : Nat) (w : World) (hb : six b = true) :
    Calls Try.prog 15 #[.int .u8 b] w fun e w' => e = .returned (.int .u8 (dig b)) ∧ w' = w := by
  rcases six_iff.1 hb with ⟨c1, c2⟩ | ⟨c1, c2⟩ | ⟨c1, c2⟩
  · rw [show dig b = (b : Int) - 48 by unfold dig; rw [if_pos ⟨c1, c2⟩]]
    go_enter Try.func15, Try.ntmps15
    go_wp2
    go_ret
    exact ⟨rfl, rfl⟩
  · rw [show dig b = (b : Int) - 87 by unfold dig; rw [if_neg (by omega), if_pos ⟨c1, c2⟩]]
    go_enter Try.func15, Try.ntmps15
    go_wp2
    go_ret
    exact ⟨rfl, rfl⟩
  · rw [show dig b = (b : Int) - 55 by unfold dig; rw [if_neg (by omega), if_neg (by omega), if_pos ⟨c1, c2⟩]]
    go_enter Try.func15, Try.ntmps15
    go_wp2
    go_ret
    exact ⟨rfl, rfl⟩

set_option maxHeartbeats 400000 in
theorem belongs_any (b k : Nat) (w : World) :
    Calls Try.prog 14 #[.int .u8 b, .int .i64 k] w fun e w' => e = .returned (.bool (belB b k)) ∧ w' = w := by
  by_cases c0 : k = 0
  · subst c0
    go_enter Try.func14, Try.ntmps14
    go_wp2
    go_ret
    exact ⟨ret_bool (by simp [belB]; try omega), rfl⟩
  · by_cases c1 : k ≤ 8
    · go_enter Try.func14, Try.ntmps14
      go_wp2_with (go_at_call 16; refine (isSixteen_any _ _).mono ?_; rintro e w' ⟨rfl, rfl⟩)
      go_ret
      exact ⟨ret_bool (by simp [belB, c0, c1]), rfl⟩
    · go_enter Try.func14, Try.ntmps14
      go_wp2_with (go_at_call 16; refine (isSixteen_any _ _).mono ?_; rintro e w' ⟨rfl, rfl⟩)
      go_ret
      exact ⟨ret_bool (by simp [belB, c0, c1]), rfl⟩

set_option maxHeartbeats 1000000 in
theorem belonging_any (s : ByteArray) (w : World) (hs : s.size ≤ 9223372036854775807) :
    Calls Try.prog 11 #[.string s] w fun e w' => e = .returned (.int .i64 (bel s : Nat)) ∧ w' = w := by
  go_enter Try.func11, Try.ntmps11
  go_wp2
  go_loopw [6] (fun i wr => ∃ k : Nat, k ≤ s.size ∧ i = .int .i64 k ∧ Belongs s k ∧ wr = w) (fun i _ => s.size - (intOf i).toNat)
  case atStart => exact ⟨0, Nat.zero_le _, rfl, ⟨Nat.zero_le _, fun _ _ h => absurd h (by omega)⟩, rfl⟩
  case round =>
    obtain ⟨k, hk, rfl, hB, rfl⟩ := hrel
    have HB : Hid (Belongs s k) := hB
    clear hB
    by_cases hlt : k < s.size
    · cases hb : belB (s[k]).toNat k
      · have HX : Hid (bel s = k) := bel_is HB.out (fun _ => hb)
        go_wp2_with (go_at_call 14; refine (belongs_any _ _ _).mono ?_; rintro e w' ⟨rfl, rfl⟩)
        go_ret
        exact ⟨by rw [HX.out]; rfl, rfl⟩
      · go_wp2_with (go_at_call 14; refine (belongs_any _ _ _).mono ?_; rintro e w' ⟨rfl, rfl⟩)
        go_roundw
        case rel =>
          refine ⟨k + 1, by omega, by go_num, ⟨by omega, fun j hj hj' => ?_⟩, by first | rfl | trivial⟩
          by_cases e : j = k
          · subst e; exact hb
          · exact HB.out.2 j hj (by omega)
        case measure => simp [intOf]; omega
    · have HX : Hid (bel s = s.size) := bel_is (by have e : k = s.size := by omega
                                                   exact e ▸ HB.out) (fun h => absurd h (by omega))
      go_wp2
      go_ret
      exact ⟨by rw [HX.out]; rfl, rfl⟩

end Go.Proofs.Ytbppadheejdhcab
