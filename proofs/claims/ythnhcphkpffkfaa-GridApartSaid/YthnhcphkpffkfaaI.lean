/-
  Contracts of package geom: whether one lies in another, over another.
-/
import Derived.Test.YthnhcphkpffkfaaJ
namespace Go.Proofs.Ythnhcphkpffkfaa
open Go.RowKit

set_option maxRecDepth 10000 in
set_option maxHeartbeats 1000000 in
theorem over_any (ax ay aw ah bx by' bw bh : Int) (w : World) (hax : I64 ax) (hay : I64 ay) (hbx : I64 bx) (hby : I64 by') :
    Calls Try.prog 24 #[.agg #[.int .i64 ax, .int .i64 ay, .int .i64 aw, .int .i64 ah], .agg #[.int .i64 bx, .int .i64 by', .int .i64 bw, .int .i64 bh]] w fun e w' => e = .returned (.bool (overB ax ay aw ah bx by' bw bh)) ∧ Below w.heap.size w w' := by
  go_enter Try.func24, Try.ntmps24
  go_wp2_with fail
  obtain ⟨A, B, L⟩ := boxes_rr w ax ay aw ah bx by' bw bh 42 42
  refine (meet_any _ _ _ _ _ _ _ _ _ hax hay hbx hby).mono ?_
  rintro e w1 ⟨rfl, hb⟩
  replace L := L.trans (hb.mono L.size)
  clear A B hb
  go_wp2
  all_goals
    go_ret
    refine ⟨ret_bool ?_, L⟩
    unfold overB eqB
    simp_all

end Go.Proofs.Ythnhcphkpffkfaa
