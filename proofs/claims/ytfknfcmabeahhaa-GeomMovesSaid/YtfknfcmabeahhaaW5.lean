/-
  Contract: two corners make a rectangle, by the document's answer.
-/
import Derived.Test.YtfknfcmabeahhaaW4
namespace Go.Proofs.Ytfknfcmabeahhaa
open Go.RowKit

theorem mkB_of (ax ay bx by' : Int) : mkB ax ay bx by' = (witB ax (-16384) 16384 && (witB ay (-16384) 16384 && (witB bx (-16384) 16384 && witB by' (-16384) 16384))) := by
  unfold mkB cornB
  cases witB ax (-16384) 16384 <;> simp

set_option maxHeartbeats 1000000 in
theorem rmake_any (ax ay bx by' : Int) (w : World) :
    Calls Try.prog 21 #[.agg #[.int .i64 ax, .int .i64 ay], .agg #[.int .i64 bx, .int .i64 by']] w fun e w' => e = .returned (.tuple #[.agg #[.int .i64 (mkR ax ay bx by').x, .int .i64 (mkR ax ay bx by').y, .int .i64 (mkR ax ay bx by').w, .int .i64 (mkR ax ay bx by').h], .int .i64 (mkE ax ay bx by')]) ∧ Below w.heap.size w w' := by
  rcases chain4 (witB ax (-16384) 16384) (witB ay (-16384) 16384) (witB bx (-16384) 16384) (witB by' (-16384) 16384) with h1 | ⟨h1, h2⟩ | ⟨h1, h2, h3⟩ | ⟨h1, h2, h3, h4⟩ | ⟨h1, h2, h3, h4⟩
  iterate 4
    · have hk : mkB ax ay bx by' = false := by rw [mkB_of]; simp [*]
      rw [show mkR ax ay bx by' = zr by simp [mkR, hk], show mkE ax ay bx by' = 2 by simp [mkE, hk]]
      clear hk
      go_enter Try.func21, Try.ntmps21
      go_wp2_with (go_at_call 47; refine (rwithin_any _ _).mono ?_; rintro e w' ⟨rfl, rfl⟩)
      exact bodyPost_ret (v := .tuple #[.agg #[.int .i64 0, .int .i64 0, .int .i64 0, .int .i64 0], .int .i64 2]) (by simp [results, Try.results21, go_sem]) rfl ⟨rfl, (((Below.refl _ _).alloc (Nat.le_refl _) _).alloc (by simp) _).alloc (by simp; omega) _⟩
  · have hk : mkB ax ay bx by' = true := by rw [mkB_of]; simp [*]
    rw [show mkR ax ay bx by' = btw (min ax bx) (min ay by') (max ax bx) (max ay by') by simp [mkR, hk], show mkE ax ay bx by' = 0 by simp [mkE, hk]]
    clear hk
    have i1 := wit_iff.1 h1
    have i2 := wit_iff.1 h2
    have i3 := wit_iff.1 h3
    have i4 := wit_iff.1 h4
    obtain ⟨a1, a2⟩ := i1
    obtain ⟨a3, a4⟩ := i2
    obtain ⟨b1, b2⟩ := i3
    obtain ⟨b3, b4⟩ := i4
    rcases mnmx ax bx with ⟨k1, c1, m1, m2⟩ | ⟨k1, c1, m1, m2⟩ | ⟨k1, c1, m1, m2⟩ <;> rcases mnmx ay by' with ⟨k2, c2, m3, m4⟩ | ⟨k2, c2, m3, m4⟩ | ⟨k2, c2, m3, m4⟩
    all_goals
      rw [m1, m2, m3, m4]
      clear m1 m2 m3 m4
      go_enter Try.func21, Try.ntmps21
      go_wp2_with (go_at_call 47; refine (rwithin_any _ _).mono ?_; rintro e w' ⟨rfl, rfl⟩)
      go_quiet (fail)
      go_wp2_with fail
      go_quiet (fail)
      go_wp2_with fail
      obtain ⟨A, B, C, L⟩ := boxes_ppr w ax ay bx by' 25 25 29
      clear A B
      refine (from_any _ _ _ _ _ (by omega) (by omega) (by omega) (by omega) (by omega) (by omega) (by omega) (by omega)).mono ?_
      rintro e w3 ⟨rfl, hb⟩
      replace hb : Below (((w.alloc (.cells #[.int .i64 ax, .int .i64 ay] 25)).alloc (.cells #[.int .i64 bx, .int .i64 by'] 25)).alloc (.cells #[.int .i64 0, .int .i64 0, .int .i64 0, .int .i64 0] 29)).heap.size (((w.alloc (.cells #[.int .i64 ax, .int .i64 ay] 25)).alloc (.cells #[.int .i64 bx, .int .i64 by'] 25)).alloc (.cells #[.int .i64 0, .int .i64 0, .int .i64 0, .int .i64 0] 29)) w3 := ⟨hb.os, hb.tape, hb.output, hb.size, hb.block⟩
      replace L := L.trans (hb.mono L.size)
      replace C := C.below hb
      have F := ((fr2 w _ _ _ _).below hb).2
      clear hb
      obtain ⟨d0, d1, d2, d3⟩ := id C
      go_wp2
      exact bodyPost_ret (v := .tuple #[.agg #[.int .i64 _, .int .i64 _, .int .i64 _, .int .i64 _], .int .i64 0]) (by simp [results, Try.results21, go_sem, d0, d1, d2, d3]) rfl ⟨rfl, set4_below L (by omega) _ _ _ _⟩

end Go.Proofs.Ytfknfcmabeahhaa
