/-
  Contracts of the document's answer for layer 4: a text read.
-/
import Derived.Test.YtbppadheejdhcaaDoorCX3
import Derived.Test.YtbppadheejdhcaaDoorCT3
namespace Go.Proofs.YtbppadheejdhcaaDoor
open Go.RowKit

set_option maxHeartbeats 400000 in
theorem digit_any (b : Nat) (w : World) (hb : b < 256) :
    Calls Tryd.prog 35 #[.int .u8 b] w fun e w' => e = .returned (.int .i64 (dig b)) ∧ w' = w := by
  have cs : (48 ≤ b ∧ b ≤ 57) ∨ (97 ≤ b ∧ b ≤ 102) ∨ (65 ≤ b ∧ b ≤ 70) ∨ b < 48 ∨ (57 < b ∧ b < 65) ∨ (70 < b ∧ b < 97) ∨ 102 < b := by omega
  rcases cs with ⟨c1, c2⟩ | ⟨c1, c2⟩ | ⟨c1, c2⟩ | c1 | ⟨c1, c2⟩ | ⟨c1, c2⟩ | c1
  · rw [show dig b = (b : Int) - 48 by unfold dig; rw [if_pos ⟨c1, c2⟩]]
    go_enter Tryd.func35, Tryd.ntmps35
    go_wp2
    go_ret
    exact ⟨rfl, rfl⟩
  · rw [show dig b = (b : Int) - 97 + 10 by unfold dig; rw [if_neg (by omega), if_pos ⟨c1, c2⟩]; omega]
    go_enter Tryd.func35, Tryd.ntmps35
    go_wp2
    go_ret
    exact ⟨rfl, rfl⟩
  · rw [show dig b = (b : Int) - 65 + 10 by unfold dig; rw [if_neg (by omega), if_neg (by omega), if_pos ⟨c1, c2⟩]; omega]
    go_enter Tryd.func35, Tryd.ntmps35
    go_wp2
    go_ret
    exact ⟨rfl, rfl⟩
  all_goals
    rw [show dig b = -1 by unfold dig; rw [if_neg (by omega), if_neg (by omega), if_neg (by omega)]]
    go_enter Tryd.func35, Tryd.ntmps35
    go_wp2
    go_ret
    exact ⟨rfl, rfl⟩

theorem bel_zero {b : Nat} : belB b 0 = (b == 35) := rfl
theorem bel_pos {b k : Nat} (h0 : k ≠ 0) (h9 : k < 9) : belB b k = decide (0 ≤ dig b) := by
  unfold belB six
  rw [if_neg h0, show decide (k ≤ 8) = true by simp; omega, Bool.true_and]
theorem Belongs.snoc {s : ByteArray} {k : Nat} (h : Belongs s k) (hlt : k < s.size) (hb : belB (s[k]).toNat k = true) : Belongs s (k + 1) :=
  ⟨hlt, fun j hj hj' => by
    by_cases e : j = k
    · subst e; exact hb
    · exact h.2 j hj (by omega)⟩

set_option maxHeartbeats 2000000 in
theorem rparse_bad (s : ByteArray) (w : World) (hs : s.size ≤ 9223372036854775807) (hok : okT s = false) :
    Calls Tryd.prog 27 #[.string s] w fun e w' => e = .returned (.tuple #[.agg #[.int .u8 0, .int .u8 0, .int .u8 0, .int .u8 0], .int .i64 (bel s : Nat), .int .i64 40]) ∧ Below w.heap.size w w' := by
  have HB : Hid (bel s ≤ s.size ∧ (bel s = s.size → ¬ bel s = 4 ∧ ¬ bel s = 7 ∧ ¬ bel s = 9)) := by
    refine ⟨(bel_le s).1, fun h => ?_⟩
    have : ¬ okT s = true := by simp [hok]
    rw [ok_iff] at this
    omega
  clear hok
  go_enter Tryd.func27, Tryd.ntmps27
  go_wp2
  go_loopw [5] (fun i wr => ∃ k : Nat, k ≤ s.size ∧ i = .int .i64 k ∧ Belongs s k ∧ wr = w.alloc (.cells #[.int .u8 0, .int .u8 0, .int .u8 0, .int .u8 0] 25)) (fun i _ => s.size - (intOf i).toNat)
  case atStart => exact ⟨0, Nat.zero_le _, rfl, ⟨Nat.zero_le _, fun _ _ h => absurd h (by omega)⟩, rfl⟩
  case round =>
    obtain ⟨k, hk, rfl, hB, rfl⟩ := hrel
    have HK : Hid (Belongs s k) := hB
    clear hB
    have fin : ∀ n : Nat, Ending.returned (.tuple #[.agg #[.int .u8 0, .int .u8 0, .int .u8 0, .int .u8 0], .int .i64 ((n : Nat) : Int), .int .i64 40]) = Ending.returned (.tuple #[.agg #[.int .u8 0, .int .u8 0, .int .u8 0, .int .u8 0], .int .i64 ((n : Nat) : Int), .int .i64 40]) := fun _ => rfl
    clear fin
    by_cases hlt : k < s.size
    · by_cases h9 : k < 9
      · by_cases h0 : k = 0
        · subst h0
          cases hb : belB (s[0]).toNat 0
          · have HX : Hid (bel s = 0) := bel_is HK.out (fun _ => hb)
            rw [bel_zero] at hb
            have hb2 : (((s[0]).toNat : Int) == 35) = false := by rw [beq_eq_false_iff_ne] at hb ⊢; omega
            clear hb
            go_wp2
            exact bodyPost_ret (v := .tuple #[.agg #[.int .u8 0, .int .u8 0, .int .u8 0, .int .u8 0], .int .i64 0, .int .i64 40]) (by simp [results, Tryd.results27, go_sem]) rfl ⟨by rw [HX.out]; rfl, (Below.refl _ _).alloc (Nat.le_refl _) _⟩
          · have HN := HK.out.snoc hlt hb
            have HN' : Hid (Belongs s (0 + 1)) := HN
            rw [bel_zero] at hb
            have hb2 : (((s[0]).toNat : Int) == 35) = true := by rw [beq_iff_eq] at hb ⊢; omega
            clear hb HN
            go_wp2
            go_roundw
            case rel => exact ⟨1, by omega, by go_num, HN'.out, by first | rfl | trivial⟩
            case measure => simp [intOf]; omega
        · cases hb : belB (s[k]).toNat k
          · have HX : Hid (bel s = k) := bel_is HK.out (fun _ => hb)
            rw [bel_pos h0 h9] at hb
            go_wp2_with (go_at_call 35; refine (digit_any _ _ (UInt8.toNat_lt _)).mono ?_; rintro e w' ⟨rfl, rfl⟩)
            exact bodyPost_ret (v := .tuple #[.agg #[.int .u8 0, .int .u8 0, .int .u8 0, .int .u8 0], .int .i64 k, .int .i64 40]) (by simp [results, Tryd.results27, go_sem]) rfl ⟨by rw [HX.out], (Below.refl _ _).alloc (Nat.le_refl _) _⟩
          · have HN := HK.out.snoc hlt hb
            have HN' : Hid (Belongs s (k + 1)) := HN
            rw [bel_pos h0 h9] at hb
            clear HN
            go_wp2_with (go_at_call 35; refine (digit_any _ _ (UInt8.toNat_lt _)).mono ?_; rintro e w' ⟨rfl, rfl⟩)
            go_roundw
            case rel => exact ⟨k + 1, by omega, by go_num, HN'.out, by first | rfl | trivial⟩
            case measure => simp [intOf]; omega
      · have HX : Hid (bel s = k) := bel_is HK.out (fun _ => by unfold belB; rw [if_neg (by omega), show decide (k ≤ 8) = false by simp; omega, Bool.false_and])
        go_wp2
        exact bodyPost_ret (v := .tuple #[.agg #[.int .u8 0, .int .u8 0, .int .u8 0, .int .u8 0], .int .i64 k, .int .i64 40]) (by simp [results, Tryd.results27, go_sem]) rfl ⟨by rw [HX.out], (Below.refl _ _).alloc (Nat.le_refl _) _⟩
    · obtain rfl : k = s.size := by omega
      have HX : Hid (bel s = s.size) := bel_is HK.out (fun h => absurd h (by omega))
      obtain ⟨n4, n7, n9⟩ := HB.out.2 HX.out
      rw [HX.out] at n4 n7 n9
      have m4 : ((s.size : Int) == 4) = false := by rw [beq_eq_false_iff_ne]; omega
      have m7 : ((s.size : Int) == 7) = false := by rw [beq_eq_false_iff_ne]; omega
      have m9 : ((s.size : Int) == 9) = false := by rw [beq_eq_false_iff_ne]; omega
      have q4 : ((s.size : Int) != 4) = true := by simp; omega
      have q7 : ((s.size : Int) != 7) = true := by simp; omega
      have q9 : ((s.size : Int) != 9) = true := by simp; omega
      clear HB n4 n7 n9
      go_wp2
      exact bodyPost_ret (v := .tuple #[.agg #[.int .u8 0, .int .u8 0, .int .u8 0, .int .u8 0], .int .i64 s.size, .int .i64 40]) (by simp [results, Tryd.results27, go_sem]) rfl ⟨by rw [HX.out], (Below.refl _ _).alloc (Nat.le_refl _) _⟩

end Go.Proofs.YtbppadheejdhcaaDoor
