/-
  The walk of the statement RunesGo: it answers true; of what was there nothing turns.
-/
import Derived.Test.YtbljlebhpbhjjaaDoorF5
namespace Go.Proofs.YtbljlebhpbhjjaaDoor
open Go.RowKit Go.Shelf

set_option maxHeartbeats 2000000 in
theorem gone_walk (s : ByteArray) (p : Int) (w : World) (A : All w) (hs : s.size ≤ 1048576) :
    Calls Tryd.prog 5 #[.string s, .int .i64 p] w fun e w' => e = .returned (.bool true) ∧ Below w.heap.size w w' := by
  have N1 : Hid (∀ w, All w → Calls Tryd.prog 23 #[.string s, .int .i64 p] w fun e w' => e = .returned (.tuple #[.int .i64 (nextN s p), .bool (nextB s p)]) ∧ Below w.heap.size w w') := fun w h => next_any s p w h.1
  have N2 : Hid (∀ w, Calls Tryd.prog 24 #[.string s, .int .i64 p] w fun e w' => e = .returned (.tuple #[.int .i64 (nextN s p), .bool (nextB s p)]) ∧ Below w.heap.size w w') := fun w => by
    have h := rnext_any s p w hs
    rw [(next_same s p).1, (next_same s p).2] at h
    exact h
  have B1 : Hid (∀ w, All w → Calls Tryd.prog 25 #[.string s, .int .i64 p] w fun e w' => e = .returned (.tuple #[.int .i64 (backN s p), .bool (backB s p)]) ∧ Below w.heap.size w w') := fun w h => back_any s p w h.1
  have B2 : Hid (∀ w, Calls Tryd.prog 26 #[.string s, .int .i64 p] w fun e w' => e = .returned (.tuple #[.int .i64 (backN s p), .bool (backB s p)]) ∧ Below w.heap.size w w') := fun w => rback_any s p w hs
  have W1 : Hid (∀ w, All w → Calls Tryd.prog 27 #[.string s, .int .i64 p] w fun e w' => e = .returned (.tuple #[.int .i64 (wordA s p).1, .bool (wordA s p).2]) ∧ Below w.heap.size w w') := fun w h => word_any s p w h.1 h.2.1
  have W2 : Hid (∀ w, All w → Calls Tryd.prog 28 #[.string s, .int .i64 p] w fun e w' => e = .returned (.tuple #[.int .i64 (wordA s p).1, .bool (wordA s p).2]) ∧ Below w.heap.size w w') := fun w h => by
    have h := rword_any s p w hs h.2.1
    rw [word_same s p] at h
    exact h
  generalize nextN s p = n1 at *
  generalize nextB s p = n2 at *
  generalize backN s p = b1 at *
  generalize backB s p = b2 at *
  generalize (wordA s p).1 = d1 at *
  generalize (wordA s p).2 = d2 at *
  have H0 : Hid (All w ∧ Below w.heap.size w w) := ⟨A, Below.refl _ _⟩
  clear A
  go_enter Tryd.func5, Tryd.ntmps5
  go_wp2_with fail
  refine (awake_any _ H0.out.1).mono ?_
  rintro e w1 ⟨rfl, hb⟩
  have H1 : Hid (All w1 ∧ Below w.heap.size w w1) := chain_all H0.out hb
  clear hb
  go_wp2_with fail
  refine (N1.out _ H1.out.1).mono ?_
  rintro e w2 ⟨rfl, hb⟩
  have H2 : Hid (All w2 ∧ Below w.heap.size w w2) := chain_all H1.out hb
  clear hb
  go_wp2_with fail
  refine (N2.out _).mono ?_
  rintro e w3 ⟨rfl, hb⟩
  have H3 : Hid (All w3 ∧ Below w.heap.size w w3) := chain_all H2.out hb
  clear hb
  go_wp2_with fail
  refine (B1.out _ H3.out.1).mono ?_
  rintro e w4 ⟨rfl, hb⟩
  have H4 : Hid (All w4 ∧ Below w.heap.size w w4) := chain_all H3.out hb
  clear hb
  go_wp2_with fail
  refine (B2.out _).mono ?_
  rintro e w5 ⟨rfl, hb⟩
  have H5 : Hid (All w5 ∧ Below w.heap.size w w5) := chain_all H4.out hb
  clear hb
  go_wp2_with fail
  refine (W1.out _ H5.out.1).mono ?_
  rintro e w6 ⟨rfl, hb⟩
  have H6 : Hid (All w6 ∧ Below w.heap.size w w6) := chain_all H5.out hb
  clear hb
  go_wp2_with fail
  refine (W2.out _ H6.out.1).mono ?_
  rintro e w7 ⟨rfl, hb⟩
  have H7 : Hid (All w7 ∧ Below w.heap.size w w7) := chain_all H6.out hb
  clear hb
  go_wp2
  go_ret
  exact ⟨rfl, H7.out.2⟩

end Go.Proofs.YtbljlebhpbhjjaaDoor
