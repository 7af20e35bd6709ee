/-
  The walk of the statement RunesClean: it answers true.
-/
import Derived.Test.YtbljlebhpbhjjaaDoorRAw
import Derived.Test.YtbljlebhpbhjjaaDoorFC2
import Derived.Test.YtbljlebhpbhjjaaDoorRV
namespace Go.Proofs.YtbljlebhpbhjjaaDoor
open Go.RowKit Go.Shelf

set_option maxRecDepth 10000 in
set_option maxHeartbeats 2000000 in
theorem clean_walk (s : ByteArray) (w : World) (A : All w) (hs : s.size ≤ 1048576) :
    Calls Tryd.prog 8 #[.string s] w fun e w' => e = .returned (.bool true) ∧ Below w.heap.size w w' := by
  obtain ⟨f1, f2, f3, f4, f5, f6, f7⟩ := clean_facts s
  have E1 : Hid (∀ w, Calls Tryd.prog 16 #[.string s] w fun e w' => e = .returned (.string (cleanA s)) ∧ Below w.heap.size w w') := fun w => clean_any s w (by omega)
  have E2 : Hid (∀ w, Calls Tryd.prog 16 #[.string (cleanA s)] w fun e w' => e = .returned (.string (cleanA s)) ∧ Below w.heap.size w w') := fun w => by
    have h := clean_any (cleanA s) w (by omega)
    rw [f2] at h
    exact h
  have C1 : Hid (∀ w, All w → ∃ n : Nat, Calls Tryd.prog 10 #[.string s] w fun e w' => e = .returned (.tuple #[.int .i64 (sumC (pcs s)), .int .i64 n]) ∧ Below w.heap.size w w') := fun w h => ⟨_, cells_any s w h.1 (by unfold Short; omega)⟩
  have C2 : Hid (∀ w, All w → ∃ n : Nat, Calls Tryd.prog 10 #[.string (cleanA s)] w fun e w' => e = .returned (.tuple #[.int .i64 (sumC (pcs s)), .int .i64 n]) ∧ Below w.heap.size w w') := fun w h => by
    have k := cells_any (cleanA s) w h.1 (by unfold Short; omega)
    rw [f3] at k
    exact ⟨_, k⟩
  have A1 : Hid (∀ w, All w → Calls Tryd.prog 14 #[.string s] w fun e w' => e = .returned (.int .i64 (atA s)) ∧ Below w.heap.size w w') := fun w h => at_any s w h.2.2.2
  have A2 : Hid (∀ w, All w → Calls Tryd.prog 14 #[.string (cleanA s)] w fun e w' => e = .returned (.int .i64 (-1)) ∧ Below w.heap.size w w') := fun w h => by
    have k := at_any (cleanA s) w h.2.2.2
    rw [f4] at k
    exact k
  have V1 : Hid (∀ w, All w → Calls Tryd.prog 31 #[.string s] w fun e w' => e = .returned (.bool (Lib.validD s.data.toList)) ∧ Below w.heap.size w w') := fun w h => Any.utf8_ValidString Tryd.lays196 s w (by omega) h.2.2.2
  have V2 : Hid (∀ w, All w → Calls Tryd.prog 31 #[.string (cleanA s)] w fun e w' => e = .returned (.bool true) ∧ Below w.heap.size w w') := fun w h => by
    have k := Any.utf8_ValidString Tryd.lays196 (cleanA s) w (by omega) h.2.2.2
    rw [f1] at k
    exact k
  clear f1 f2 f3 f4
  generalize sumC (pcs s) = n1 at *
  generalize atA s = n4 at *
  generalize cleanA s = c at *
  generalize Lib.validD s.data.toList = vd at *
  have hc : c.size ≤ 4194304 := by omega
  have F6 : Hid (∀ (i : Nat) (h : i < c.size), (32 ≤ (c[i]).toNat ∨ (c[i]).toNat = 10) ∧ (c[i]).toNat ≠ 127) := f6
  have H0 : Hid (All w ∧ Below w.heap.size w w) := ⟨A, Below.refl _ _⟩
  clear A f6 f5
  go_enter Tryd.func8, Tryd.ntmps8
  go_wp2_with fail
  refine (awake_any _ H0.out.1).mono ?_
  rintro e w1 ⟨rfl, hb⟩
  have H1 : Hid (All w1 ∧ Below w.heap.size w w1) := chain_all H0.out hb
  clear hb
  go_wp2_with fail
  refine (E1.out _).mono ?_
  rintro e w2 ⟨rfl, hb⟩
  have H2 : Hid (All w2 ∧ Below w.heap.size w w2) := chain_all H1.out hb
  clear hb
  go_wp2_with fail
  go_loopw [5] (fun i wr => ∃ k : Nat, k ≤ c.size ∧ i = .int .i64 k ∧ wr = w2) (fun i _ => c.size - (intOf i).toNat)
  case atStart => exact ⟨0, Nat.zero_le _, rfl, rfl⟩
  case round =>
    obtain ⟨k, hk, rfl, rfl⟩ := hrel
    by_cases hlt : k < c.size
    · obtain ⟨g1, g2⟩ := F6.out k hlt
      rcases g1 with g1 | g1
      · go_wp2
        go_roundw
        case rel => exact ⟨k + 1, by omega, by go_num, by first | rfl | trivial⟩
        case measure => simp [intOf]; omega
      · go_wp2
        go_roundw
        case rel => exact ⟨k + 1, by omega, by go_num, by first | rfl | trivial⟩
        case measure => simp [intOf]; omega
    · go_wp2_with fail
      obtain ⟨m1, h1⟩ := C1.out _ H2.out.1
      refine h1.mono ?_
      clear h1
      rintro e w3 ⟨rfl, hb⟩
      have H3 : Hid (All w3 ∧ Below w.heap.size w w3) := chain_all H2.out hb
      clear hb
      go_wp2_with fail
      obtain ⟨m2, h1⟩ := C2.out _ H3.out.1
      refine h1.mono ?_
      clear h1
      rintro e w4 ⟨rfl, hb⟩
      have H4 : Hid (All w4 ∧ Below w.heap.size w w4) := chain_all H3.out hb
      clear hb
      go_wp2_with fail
      refine (V2.out _ H4.out.1).mono ?_
      rintro e w5 ⟨rfl, hb⟩
      have H5 : Hid (All w5 ∧ Below w.heap.size w w5) := chain_all H4.out hb
      clear hb
      go_wp2_with fail
      refine (E2.out _).mono ?_
      rintro e w6 ⟨rfl, hb⟩
      have H6 : Hid (All w6 ∧ Below w.heap.size w w6) := chain_all H5.out hb
      clear hb
      go_wp2_with fail
      refine (A1.out _ H6.out.1).mono ?_
      rintro e w7 ⟨rfl, hb⟩
      have H7 : Hid (All w7 ∧ Below w.heap.size w w7) := chain_all H6.out hb
      clear hb
      go_wp2_with fail
      refine (V1.out _ H7.out.1).mono ?_
      rintro e w8 ⟨rfl, hb⟩
      have H8 : Hid (All w8 ∧ Below w.heap.size w w8) := chain_all H7.out hb
      clear hb
      subst f7
      go_wp2_with fail
      refine (A2.out _ H8.out.1).mono ?_
      rintro e w9 ⟨rfl, hb⟩
      have H9 : Hid (All w9 ∧ Below w.heap.size w w9) := chain_all H8.out hb
      clear hb
      go_wp2
      go_ret
      exact ⟨rfl, H9.out.2⟩

end Go.Proofs.YtbljlebhpbhjjaaDoor
