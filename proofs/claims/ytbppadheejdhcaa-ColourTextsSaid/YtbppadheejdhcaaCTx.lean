/-
  The walk of the statement ColourTexts: it answers true; of what was there nothing turns.
-/
import Derived.Test.YtbppadheejdhcaaER4
namespace Go.Proofs.Ytbppadheejdhcaa
open Go.RowKit

set_option maxHeartbeats 2000000 in
theorem texts_walk (s : ByteArray) (c : Co) (w : World) (hs : s.size ≤ 9223372036854775807) (hc : c.ok) :
    Calls Try.prog 3 #[.string s, (Value.agg #[.int .u8 c.r, .int .u8 c.g, .int .u8 c.b, .int .u8 c.a])] w fun e w' => e = .returned (.bool true) ∧ Below w.heap.size w w' := by
  have H1 : Hid (∀ w, Calls Try.prog 7 #[.string s] w fun e w' => e = .returned (.tuple #[(Value.agg #[.int .u8 (parC s).r, .int .u8 (parC s).g, .int .u8 (parC s).b, .int .u8 (parC s).a]), .int .i64 (parN s), .int .i64 (parE s)]) ∧ Below w.heap.size w w') := fun w => parse_any s w hs
  have H2 : Hid (∀ w, Calls Try.prog 8 #[.string s] w fun e w' => e = .returned (.tuple #[(Value.agg #[.int .u8 (parC s).r, .int .u8 (parC s).g, .int .u8 (parC s).b, .int .u8 (parC s).a]), .int .i64 (parN s), .int .i64 (parE s)]) ∧ Below w.heap.size w w') := fun w => rparse_any s w hs
  have H3 : Hid (∀ w, Calls Try.prog 9 #[(Value.agg #[.int .u8 c.r, .int .u8 c.g, .int .u8 c.b, .int .u8 c.a])] w fun e w' => e = .returned (.string (txt c)) ∧ Below w.heap.size w w') := fun w => text_any c w hc
  have H4 : Hid (∀ w, Calls Try.prog 10 #[(Value.agg #[.int .u8 c.r, .int .u8 c.g, .int .u8 c.b, .int .u8 c.a])] w fun e w' => e = .returned (.string (txt c)) ∧ Below w.heap.size w w') := fun w => rtext_any c w hc
  clear hc
  generalize parC s = p at *
  generalize parN s = n at *
  generalize parE s = e0 at *
  generalize txt c = t0 at *
  go_enter Try.func3, Try.ntmps3
  go_wp2_with fail
  refine (H1.out _).mono ?_
  rintro e w1 ⟨rfl, hb⟩
  have A := (AtC.new w c.r c.g c.b c.a 23).below hb
  have L := ((Below.refl w.heap.size w).alloc (Nat.le_refl _) _).trans (hb.mono (by simp))
  clear hb
  go_wp2_with fail
  refine (H2.out _).mono ?_
  rintro e w2 ⟨rfl, hb⟩
  replace A := (A.alloc _).below hb
  have B := (AtC.new w1 p.r p.g p.b p.a 23).below hb
  replace L := (L.alloc L.size _).trans (hb.mono (by have := L.size; simp; omega))
  clear hb
  have lb := B.lt
  go_wp2_with fail
  have C := AtC.new w2 p.r p.g p.b p.a 23
  replace A := A.alloc (.cells #[.int .u8 p.r, .int .u8 p.g, .int .u8 p.b, .int .u8 p.a] 23)
  replace B := B.alloc (.cells #[.int .u8 p.r, .int .u8 p.g, .int .u8 p.b, .int .u8 p.a] 23)
  replace L := L.alloc L.size (.cells #[.int .u8 p.r, .int .u8 p.g, .int .u8 p.b, .int .u8 p.a] 23)
  have ne := gw_ne L
  have a0 := fun t => (gwC A t).1
  have a1 := fun t => (gwC A t).2.1
  have a2 := fun t => (gwC A t).2.2.1
  have a3 := fun t => (gwC A t).2.2.2
  have b0 := fun t => (gwC B t).1
  have b1 := fun t => (gwC B t).2.1
  have b2 := fun t => (gwC B t).2.2.1
  have b3 := fun t => (gwC B t).2.2.2
  have c0 := fun t => (gwC C t).1
  have c1 := fun t => (gwC C t).2.1
  have c2 := fun t => (gwC C t).2.2.1
  have c3 := fun t => (gwC C t).2.2.2
  have HL : Hid (Below w.heap.size w (w2.alloc (.cells #[.int .u8 p.r, .int .u8 p.g, .int .u8 p.b, .int .u8 p.a] 23))) := L
  clear A B C L lb
  refine wp_region_gw (by kernel_rfl) (by kernel_rfl) ?_
  repeat (go_big_quiet_step (first
    | (go_at_call 9; exact gw_call (H3.out _))
    | (go_at_call 10; exact gw_call (H4.out _))))
  refine wpQuiet_nil ?_
  rintro _ ⟨t, rfl⟩
  go_wp2
  go_ret
  exact ⟨rfl, HL.out.trans (t.below.mono HL.out.size)⟩

end Go.Proofs.Ytbppadheejdhcaa
