/-
  Contracts of the document's answer for layer 4: any text read; a byte in two small sixteens.
-/
import Derived.Test.YtbppadheejdhcaaER2
namespace Go.Proofs.Ytbppadheejdhcaa
open Go.RowKit

theorem rparse_any (s : ByteArray) (w : World) (hs : s.size ≤ 9223372036854775807) :
    Calls Try.prog 8 #[.string s] w fun e w' => e = .returned (.tuple #[(Value.agg #[.int .u8 (parC s).r, .int .u8 (parC s).g, .int .u8 (parC s).b, .int .u8 (parC s).a]), .int .i64 (parN s), .int .i64 (parE s)]) ∧ Below w.heap.size w w' := by
  cases hok : okT s
  · rw [show parC s = ⟨0, 0, 0, 0⟩ by unfold parC; rw [if_neg (by simp [hok])], show parN s = (bel s : Nat) by unfold parN; rw [if_neg (by simp [hok])], show parE s = 40 by unfold parE; rw [if_neg (by simp [hok])]]
    exact rparse_bad s w hs hok
  · rw [show parN s = 0 by unfold parN; rw [if_pos hok], show parE s = 0 by unfold parE; rw [if_pos hok]]
    obtain ⟨h1, h2⟩ := ok_iff.1 hok
    rcases h2 with h | h | h
    · exact rparse_4 s w (by omega) h1
    · exact rparse_7 s w (by omega) h1
    · exact rparse_9 s w (by omega) h1

theorem cut16 : ∀ x : Fin 16, (⟨#[48, 49, 50, 51, 52, 53, 54, 55, 56, 57, 97, 98, 99, 100, 101, 102]⟩ : ByteArray).extract x.val (x.val + 1) = ⟨#[bt x.val]⟩ := by decide +kernel

set_option maxHeartbeats 1000000 in
theorem two_any (b : Nat) (w : World) (hb : b < 256) :
    Calls Try.prog 27 #[.int .u8 b] w fun e w' => e = .returned (.string ⟨#[bt (b / 16), bt (b % 16)]⟩) ∧ Below w.heap.size w w' := by
  obtain ⟨q, hq⟩ : ∃ q, q = b / 16 := ⟨_, rfl⟩
  obtain ⟨r, hr⟩ : ∃ r, r = b % 16 := ⟨_, rfl⟩
  have hq' : (b : Int) / 16 = (q : Int) := by omega
  have hr' : (b : Int) % 16 = (r : Int) := by omega
  have q16 : q < 16 := by omega
  have r16 : r < 16 := by omega
  have c1 := cut16 ⟨q, q16⟩
  have c2 := cut16 ⟨r, r16⟩
  simp only at c1 c2
  rw [← hq, ← hr]
  clear hq hr
  go_enter Try.func27, Try.ntmps27
  go_wp2_with fail
  have L := Below.refl w.heap.size w
  have ne := gw_ne L
  refine wp_region_gw (by kernel_rfl) (by kernel_rfl) ?_
  repeat (go_big_quiet_step (fail))
  refine wpQuiet_nil ?_
  rintro _ ⟨t, rfl⟩
  go_wp2
  go_ret
  exact ⟨rfl, t.below⟩

end Go.Proofs.Ytbppadheejdhcaa
