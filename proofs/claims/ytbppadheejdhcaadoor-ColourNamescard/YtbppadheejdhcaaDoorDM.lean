/-
  The walk of the closed statement ColourNames: it answers true; of what was there nothing turns.
-/
import Derived.Test.YtbppadheejdhcaaDoorCAl
import Derived.Test.YtbppadheejdhcaaDoorCX3
import Derived.Test.YtbppadheejdhcaaDoorDW2
namespace Go.Proofs.YtbppadheejdhcaaDoor
open Go.RowKit

def byB (x : Int) : Bool := decide (0 ≤ x) && decide (x ≤ 255)
def okB (r g b a : Int) : Bool := byB r && (byB g && (byB b && byB a))
theorem by_of {x : Int} (h : byB x = true) : By x := by
  unfold byB at h
  simp only [Bool.and_eq_true, decide_eq_true_eq] at h
  exact h
theorem ok_of {r g b a : Int} (h : okB r g b a = true) : (⟨r, g, b, a⟩ : Co).ok := by
  unfold okB at h
  simp only [Bool.and_eq_true] at h
  exact ⟨by_of h.1, by_of h.2.1, by_of h.2.2.1, by_of h.2.2.2⟩

theorem nst_is {d : Nat → Int} {n k : Nat} (hk : k < n) (h1 : ∀ j, j < n → d k ≤ d j) (h2 : ∀ j, j < k → d k < d j) : nst d n = k := by
  obtain ⟨i1, i2, i3⟩ := nst_spec d n (by omega)
  rcases Nat.lt_trichotomy (nst d n) k with h | h | h
  · have := h2 _ h; have := i2 k hk; omega
  · exact h
  · have := i3 k h; have := h1 _ i1; omega
theorem near_is {c : Co} {n k : Nat} {m : Bool} (hk : k < n) (h : ∀ j : Fin n, farI (onB c) (bk k m) ≤ farI (onB c) (bk j.val m) ∧ (j.val < k → farI (onB c) (bk k m) < farI (onB c) (bk j.val m))) : nearN c n m = k :=
  nst_is hk (fun j hj => (h ⟨j, hj⟩).1) (fun j hj => (h ⟨j, by omega⟩).2 hj)

theorem text_c (r g b a : Int) (w : World) (h : okB r g b a = true) :
    Calls Tryd.prog 6 #[.agg #[.int .u8 r, .int .u8 g, .int .u8 b, .int .u8 a]] w fun e w' => e = .returned (.string (txt ⟨r, g, b, a⟩)) ∧ Below w.heap.size w w' := text_any ⟨r, g, b, a⟩ w (ok_of h)
theorem over_c (r g b a r' g' b' a' : Int) (w : World) (h : okB r g b a = true) (h' : okB r' g' b' a' = true) :
    Calls Tryd.prog 8 #[.agg #[.int .u8 r, .int .u8 g, .int .u8 b, .int .u8 a], .agg #[.int .u8 r', .int .u8 g', .int .u8 b', .int .u8 a']] w fun e w' => e = .returned (Value.agg #[.int .u8 (overC ⟨r, g, b, a⟩ ⟨r', g', b', a'⟩).r, .int .u8 (overC ⟨r, g, b, a⟩ ⟨r', g', b', a'⟩).g, .int .u8 (overC ⟨r, g, b, a⟩ ⟨r', g', b', a'⟩).b, .int .u8 (overC ⟨r, g, b, a⟩ ⟨r', g', b', a'⟩).a]) ∧ Below w.heap.size w w' := over_any ⟨r, g, b, a⟩ ⟨r', g', b', a'⟩ w (ok_of h) (ok_of h')
theorem mix_c (r g b a r' g' b' a' p : Int) (w : World) (h : okB r g b a = true) (h' : okB r' g' b' a' = true) (hp : byB p = true) :
    Calls Tryd.prog 9 #[.agg #[.int .u8 r, .int .u8 g, .int .u8 b, .int .u8 a], .agg #[.int .u8 r', .int .u8 g', .int .u8 b', .int .u8 a'], .int .u8 p] w fun e w' => e = .returned (Value.agg #[.int .u8 (mixC ⟨r, g, b, a⟩ ⟨r', g', b', a'⟩ p).r, .int .u8 (mixC ⟨r, g, b, a⟩ ⟨r', g', b', a'⟩ p).g, .int .u8 (mixC ⟨r, g, b, a⟩ ⟨r', g', b', a'⟩ p).b, .int .u8 (mixC ⟨r, g, b, a⟩ ⟨r', g', b', a'⟩ p).a]) ∧ Below w.heap.size w w' := mix_any ⟨r, g, b, a⟩ ⟨r', g', b', a'⟩ p w (ok_of h) (ok_of h') (by_of hp)
theorem light_c (r g b a : Int) (w : World) (h : okB r g b a = true) :
    Calls Tryd.prog 13 #[.agg #[.int .u8 r, .int .u8 g, .int .u8 b, .int .u8 a]] w fun e w' => e = .returned (.int .i64 (lightI ⟨r, g, b, a⟩)) ∧ Below w.heap.size w w' := light_any ⟨r, g, b, a⟩ w (ok_of h)
theorem clear_c (r g b a r' g' b' a' : Int) (w : World) (h : okB r g b a = true) (h' : okB r' g' b' a' = true) :
    Calls Tryd.prog 14 #[.agg #[.int .u8 r, .int .u8 g, .int .u8 b, .int .u8 a], .agg #[.int .u8 r', .int .u8 g', .int .u8 b', .int .u8 a']] w fun e w' => e = .returned (.bool (clearB ⟨r, g, b, a⟩ ⟨r', g', b', a'⟩)) ∧ Below w.heap.size w w' := clear_any ⟨r, g, b, a⟩ ⟨r', g', b', a'⟩ w (ok_of h) (ok_of h')
theorem sixteen_c (r g b a : Int) (w : World) (hP : Pal w) (h : okB r g b a = true) :
    Calls Tryd.prog 11 #[.agg #[.int .u8 r, .int .u8 g, .int .u8 b, .int .u8 a]] w fun e w' => e = .returned (.int .u8 (nearN ⟨r, g, b, a⟩ 16 false : Nat)) ∧ Below w.heap.size w w' := sixteen_any ⟨r, g, b, a⟩ w (ok_of h) hP
theorem many_c (r g b a : Int) (w : World) (hP : Pal w) (h : okB r g b a = true) :
    Calls Tryd.prog 12 #[.agg #[.int .u8 r, .int .u8 g, .int .u8 b, .int .u8 a]] w fun e w' => e = .returned (.int .u8 (nearN ⟨r, g, b, a⟩ 256 true : Nat)) ∧ Below w.heap.size w w' := many_any ⟨r, g, b, a⟩ w (ok_of h) hP
theorem back_c (n : Nat) (i : Int) (many : Bool) (w : World) (hP : Pal w) (hn : n < 256) (hi : i = (n : Int)) :
    Calls Tryd.prog 10 #[.int .u8 i, .bool many] w fun e w' => e = .returned (Value.agg #[.int .u8 (bk n many).r, .int .u8 (bk n many).g, .int .u8 (bk n many).b, .int .u8 (bk n many).a]) ∧ Below w.heap.size w w' := by
  subst hi; exact back_any n many w hP hn

set_option maxHeartbeats 400000 in
theorem wrong_any (s : ByteArray) (at' : Int) (w : World) (hs : s.size ≤ 9223372036854775807) (hok : okT s = false) (hat : ((bel s : Nat) : Int) = at') :
    Calls Tryd.prog 5 #[.string s, .int .i64 at'] w fun e w' => e = .returned (.bool true) ∧ Below w.heap.size w w' := by
  have H : Hid (∀ w, Calls Tryd.prog 19 #[.string s] w fun e w' => e = .returned (.tuple #[.agg #[.int .u8 0, .int .u8 0, .int .u8 0, .int .u8 0], .int .i64 at', .int .i64 40]) ∧ Below w.heap.size w w') := fun w => by
    have h := parse_any s w hs
    rw [show parC s = ⟨0, 0, 0, 0⟩ by unfold parC; rw [if_neg (by simp [hok])], show parN s = (bel s : Nat) by unfold parN; rw [if_neg (by simp [hok])], show parE s = 40 by unfold parE; rw [if_neg (by simp [hok])], hat] at h
    exact h
  clear hok hat
  go_enter Tryd.func5, Tryd.ntmps5
  go_wp2_with fail
  refine (H.out _).mono ?_
  rintro e w1 ⟨rfl, hb⟩
  go_wp2
  go_ret
  exact ⟨rfl, hb.alloc hb.size _⟩

end Go.Proofs.YtbppadheejdhcaaDoor
