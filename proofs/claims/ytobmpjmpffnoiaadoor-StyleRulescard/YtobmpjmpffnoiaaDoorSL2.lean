/-
  The document's answer: Look of rules that may not be.
-/
import Derived.Test.YtobmpjmpffnoiaaDoorSQ8
namespace Go.Proofs.YtobmpjmpffnoiaaDoor
open Go.RowKit Go.Shelf

set_option maxHeartbeats 2000000 in
theorem rlook_bad (rs : List Rl) (v : Value) (kind : Nat) (t : ByteArray) (st : Nat) (w : World) (hT : Tab w) (hv : Rules w v rs) (hs : ∀ r ∈ rs, r.cls.size ≤ 9223372036854775807 ∧ r.wf) (hb : chkR rs ≠ 0) :
    Calls Tryd.prog 19 #[v, .int .u8 (kind : Nat), .string t, .int .u8 (st : Nat)] w fun e w' => e = .returned (.tuple #[(Value.agg #[.int .u8 (Lk.zero.has : Nat), .int .u8 Lk.zero.r, .int .u8 Lk.zero.g, .int .u8 Lk.zero.b, .int .u8 Lk.zero.a, .int .u8 Lk.zero.r2, .int .u8 Lk.zero.g2, .int .u8 Lk.zero.b2, .int .u8 Lk.zero.a2, .bool Lk.zero.bd, .int .i64 Lk.zero.pad]), .int .i64 (chkR rs)]) ∧ Below w.heap.size w w' := by
  have HO : Hid (∀ W, Below w.heap.size w W → Calls Tryd.prog 18 #[v] W fun e w' => e = .returned (.tuple #[.slice none 0 0, .int .i64 (chkR rs)]) ∧ Below W.heap.size W w') := fun W hW => rorder_bad rs v W (hT.below hW) (hv.below hW) hs hb
  have hb' : (chkR rs == 0) = false := beq_eq_false_iff_ne.2 hb
  obtain ⟨oa, cap, rfl, _, _⟩ := hv
  clear hs hT hb
  generalize chkR rs = e0 at *
  go_enter Tryd.func19, Tryd.ntmps19
  go_wp2_with fail
  have KR := Blk.new w (#[.int .u8 (Lk.zero.has : Nat), .int .u8 Lk.zero.r, .int .u8 Lk.zero.g, .int .u8 Lk.zero.b, .int .u8 Lk.zero.a, .int .u8 Lk.zero.r2, .int .u8 Lk.zero.g2, .int .u8 Lk.zero.b2, .int .u8 Lk.zero.a2, .bool Lk.zero.bd, .int .i64 Lk.zero.pad]) 33
  have L0 : Below w.heap.size w (w.alloc (.cells (#[.int .u8 (Lk.zero.has : Nat), .int .u8 Lk.zero.r, .int .u8 Lk.zero.g, .int .u8 Lk.zero.b, .int .u8 Lk.zero.a, .int .u8 Lk.zero.r2, .int .u8 Lk.zero.g2, .int .u8 Lk.zero.b2, .int .u8 Lk.zero.a2, .bool Lk.zero.bd, .int .i64 Lk.zero.pad]) 33)) := (Below.refl _ w).alloc (Nat.le_refl _) _
  simp only [Lk.zero, Int.natCast_zero] at KR L0
  generalize w.alloc (.cells #[.int .u8 0, .int .u8 0, .int .u8 0, .int .u8 0, .int .u8 0, .int .u8 0, .int .u8 0, .int .u8 0, .int .u8 0, .bool false, .int .i64 0] 33) = w0 at *
  refine (HO.out w0 L0).mono ?_
  rintro e w1 ⟨rfl, hb1⟩
  have K1 := KR.below hb1
  have HL : Hid (Below w.heap.size w w1) := L0.trans (hb1.mono L0.size)
  obtain ⟨d0, d1, d2, d3, d4, d5, d6, d7, d8, d9, d10⟩ := K1.at11
  have fR := fun j => K1.frozen j
  clear KR K1 L0 hb1 HO
  go_wp2
  exact bodyPost_ret (v := .tuple #[(Value.agg #[.int .u8 (Lk.zero.has : Nat), .int .u8 Lk.zero.r, .int .u8 Lk.zero.g, .int .u8 Lk.zero.b, .int .u8 Lk.zero.a, .int .u8 Lk.zero.r2, .int .u8 Lk.zero.g2, .int .u8 Lk.zero.b2, .int .u8 Lk.zero.a2, .bool Lk.zero.bd, .int .i64 Lk.zero.pad]), .int .i64 e0]) (by simp [results, Tryd.results19, go_sem, Lk.zero, *]) rfl ⟨rfl, set11_below HL.out (Nat.le_refl _) _ _ _ _ _ _ _ _ _ _ _⟩

end Go.Proofs.YtobmpjmpffnoiaaDoor
