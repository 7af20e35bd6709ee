/-
  The walk of the statement WrapChecks.
-/
import Derived.Test.YtbnbfgkcndomaabDoorVB2
namespace Go.Proofs.YtbnbfgkcndomaabDoor
open Go.RowKit

set_option maxHeartbeats 2000000 in
theorem checks_walk (x : Wr) (c : Nat) (l : List Wr) (v : Value) (w : World) (T : Tab w) (hx : x.wf) (hc : c < 65536) (hv : Wraps w v l) (hs : ∀ r ∈ l, r.wf) :
    Calls Tryd.prog 3 #[(Value.agg #[.int .u8 (x.kind : Nat), .int .u16 (x.mask : Nat), .int .i64 x.num, .string x.text]), .int .u16 (c : Nat), v] w fun e w' => e = .returned (.bool true) ∧ Below w.heap.size w w' := by
  have HS : Hid (∀ W, Below w.heap.size w W → Calls Tryd.prog 4 #[.int .u16 (c : Nat), v] W fun e w' => e = .returned (.tuple #[.int .u16 (saC c l : Nat), .int .i64 (saE c l)]) ∧ Below W.heap.size W w') := fun W h => says_any c l v W hc (T.below h) (hv.below h) hs
  have HR : Hid (∀ W, Below w.heap.size w W → Calls Tryd.prog 5 #[.int .u16 (c : Nat), v] W fun e w' => e = .returned (.tuple #[.int .u16 (saC c l : Nat), .int .i64 (saE c l)]) ∧ Below W.heap.size W w') := fun W h => rsays_any c l v W (T.below h) (hv.below h)
  have HC : Hid (∀ W, Below w.heap.size w W → Calls Tryd.prog 6 #[(Value.agg #[.int .u8 (x.kind : Nat), .int .u16 (x.mask : Nat), .int .i64 x.num, .string x.text])] W fun e w' => e = .returned (.int .i64 (if okW x then 0 else 70)) ∧ Below W.heap.size W w') := fun W h => wCheck_any x W (T.below h) hx
  have HD : Hid (∀ W, Below w.heap.size w W → Calls Tryd.prog 7 #[(Value.agg #[.int .u8 (x.kind : Nat), .int .u16 (x.mask : Nat), .int .i64 x.num, .string x.text])] W fun e w' => e = .returned (.int .i64 (if okW x then 0 else 70)) ∧ Below W.heap.size W w') := fun W h => rWCheck_any x W (T.below h)
  have HA : Hid (Blk (w.alloc (.cells (#[.int .u8 (x.kind : Nat), .int .u16 (x.mask : Nat), .int .i64 x.num, .string x.text]) 24)) w.heap.size (#[.int .u8 (x.kind : Nat), .int .u16 (x.mask : Nat), .int .i64 x.num, .string x.text]) 24 ∧ Below w.heap.size w (w.alloc (.cells (#[.int .u8 (x.kind : Nat), .int .u16 (x.mask : Nat), .int .i64 x.num, .string x.text]) 24))) := ⟨Blk.new _ _ _, (Below.refl _ w).alloc (Nat.le_refl _) _⟩
  obtain ⟨oa, cap, rfl, _, _⟩ := hv
  clear T hx hc hs
  generalize saC c l = A at *
  generalize saE c l = E at *
  generalize (if okW x then (0 : Int) else 70) = C at *
  by_cases hm : 3000 < l.length
  · go_enter Tryd.func3, Tryd.ntmps3
    go_wp2
    go_ret
    exact ⟨rfl, HA.out.2⟩
  go_enter Tryd.func3, Tryd.ntmps3
  go_wp2_with fail
  refine (HS.out _ HA.out.2).mono ?_
  rintro e w1 ⟨rfl, hb⟩
  have H1 : Hid (Blk w1 w.heap.size (#[.int .u8 (x.kind : Nat), .int .u16 (x.mask : Nat), .int .i64 x.num, .string x.text]) 24 ∧ Below w.heap.size w w1) := ⟨HA.out.1.below hb, HA.out.2.trans (hb.mono HA.out.2.size)⟩
  clear hb HA
  go_wp2_with fail
  refine (HR.out _ H1.out.2).mono ?_
  rintro e w2 ⟨rfl, hb⟩
  have H2 : Hid (Blk w2 w.heap.size (#[.int .u8 (x.kind : Nat), .int .u16 (x.mask : Nat), .int .i64 x.num, .string x.text]) 24 ∧ Below w.heap.size w w2) := ⟨H1.out.1.below hb, H1.out.2.trans (hb.mono H1.out.2.size)⟩
  clear hb H1
  have ne := gw_ne H2.out.2
  have g0 := fun t : Gw w2 => (H2.out.1.below t.below).cell 0
  have g1 := fun t : Gw w2 => (H2.out.1.below t.below).cell 1
  have g2 := fun t : Gw w2 => (H2.out.1.below t.below).cell 2
  have g3 := fun t : Gw w2 => (H2.out.1.below t.below).cell 3
  have HQ : Hid (∀ t : Gw w2, Below w.heap.size w t.wd) := fun t => H2.out.2.trans (t.below.mono H2.out.2.size)
  go_wp2_with fail
  refine wp_region_gw (by kernel_rfl) (by kernel_rfl) ?_
  repeat (go_big_quiet_step (first
    | (go_at_call 6; exact gw_call (HC.out _ (HQ.out _)))
    | (go_at_call 7; exact gw_call (HD.out _ (HQ.out _)))))
  refine wpQuiet_nil ?_
  rintro _ ⟨t, rfl⟩
  go_wp2
  go_ret
  exact ⟨rfl, HQ.out t⟩

end Go.Proofs.YtbnbfgkcndomaabDoor
