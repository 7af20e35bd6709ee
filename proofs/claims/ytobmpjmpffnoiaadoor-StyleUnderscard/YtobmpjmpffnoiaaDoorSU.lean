/-
  The walk of the statement StyleUnders: it answers true; of what was there nothing turns.
-/
import Derived.Test.YtobmpjmpffnoiaaDoorSX5
import Derived.Test.YtobmpjmpffnoiaaDoorSY2
namespace Go.Proofs.YtobmpjmpffnoiaaDoor
open Go.RowKit Go.Shelf

set_option maxHeartbeats 2000000 in
theorem unders_walk (a b : Lk) (w : World) (hT : Tab w) (ha : a.has < 256) (hb : b.has < 256) :
    Calls Tryd.prog 5 #[(Value.agg #[.int .u8 (a.has : Nat), .int .u8 a.r, .int .u8 a.g, .int .u8 a.b, .int .u8 a.a, .int .u8 a.r2, .int .u8 a.g2, .int .u8 a.b2, .int .u8 a.a2, .bool a.bd, .int .i64 a.pad]), (Value.agg #[.int .u8 (b.has : Nat), .int .u8 b.r, .int .u8 b.g, .int .u8 b.b, .int .u8 b.a, .int .u8 b.r2, .int .u8 b.g2, .int .u8 b.b2, .int .u8 b.a2, .bool b.bd, .int .i64 b.pad])] w fun e w' => e = .returned (.bool true) ∧ Below w.heap.size w w' := by
  have C1 : ∀ w, Calls Tryd.prog 24 #[(Value.agg #[.int .u8 (a.has : Nat), .int .u8 a.r, .int .u8 a.g, .int .u8 a.b, .int .u8 a.a, .int .u8 a.r2, .int .u8 a.g2, .int .u8 a.b2, .int .u8 a.a2, .bool a.bd, .int .i64 a.pad]), (Value.agg #[.int .u8 (b.has : Nat), .int .u8 b.r, .int .u8 b.g, .int .u8 b.b, .int .u8 b.a, .int .u8 b.r2, .int .u8 b.g2, .int .u8 b.b2, .int .u8 b.a2, .bool b.bd, .int .i64 b.pad])] w fun e w' => e = .returned (Value.agg #[.int .u8 ((un a b).has : Nat), .int .u8 (un a b).r, .int .u8 (un a b).g, .int .u8 (un a b).b, .int .u8 (un a b).a, .int .u8 (un a b).r2, .int .u8 (un a b).g2, .int .u8 (un a b).b2, .int .u8 (un a b).a2, .bool (un a b).bd, .int .i64 (un a b).pad]) ∧ Below w.heap.size w w' := fun w => un_ly a b ▸ under_any a b w ha hb
  have C2 := fun w => runder_any a b w ha hb
  have E := fun w => eql_look (un a b) (un a b) w
  simp only [eqL_refl] at E
  generalize un a b = y at *
  go_enter Tryd.func5, Tryd.ntmps5
  go_wp2_with fail
  have A := (Blk.new w (#[.int .u8 (a.has : Nat), .int .u8 a.r, .int .u8 a.g, .int .u8 a.b, .int .u8 a.a, .int .u8 a.r2, .int .u8 a.g2, .int .u8 a.b2, .int .u8 a.a2, .bool a.bd, .int .i64 a.pad]) 33).alloc (.cells (#[.int .u8 (b.has : Nat), .int .u8 b.r, .int .u8 b.g, .int .u8 b.b, .int .u8 b.a, .int .u8 b.r2, .int .u8 b.g2, .int .u8 b.b2, .int .u8 b.a2, .bool b.bd, .int .i64 b.pad]) 33)
  have B := Blk.new (w.alloc (.cells (#[.int .u8 (a.has : Nat), .int .u8 a.r, .int .u8 a.g, .int .u8 a.b, .int .u8 a.a, .int .u8 a.r2, .int .u8 a.g2, .int .u8 a.b2, .int .u8 a.a2, .bool a.bd, .int .i64 a.pad]) 33)) (#[.int .u8 (b.has : Nat), .int .u8 b.r, .int .u8 b.g, .int .u8 b.b, .int .u8 b.a, .int .u8 b.r2, .int .u8 b.g2, .int .u8 b.b2, .int .u8 b.a2, .bool b.bd, .int .i64 b.pad]) 33
  have L0 : Below w.heap.size w ((w.alloc (.cells (#[.int .u8 (a.has : Nat), .int .u8 a.r, .int .u8 a.g, .int .u8 a.b, .int .u8 a.a, .int .u8 a.r2, .int .u8 a.g2, .int .u8 a.b2, .int .u8 a.a2, .bool a.bd, .int .i64 a.pad]) 33)).alloc (.cells (#[.int .u8 (b.has : Nat), .int .u8 b.r, .int .u8 b.g, .int .u8 b.b, .int .u8 b.a, .int .u8 b.r2, .int .u8 b.g2, .int .u8 b.b2, .int .u8 b.a2, .bool b.bd, .int .i64 b.pad]) 33)) := ((Below.refl _ w).alloc (Nat.le_refl _) _).alloc (by simp) _
  rw [World.size_alloc] at B
  refine (alive_any _ (hT.below L0)).mono ?_
  rintro e W ⟨rfl, hb⟩
  replace A := A.below hb
  replace B := B.below hb
  have L := L0.trans (hb.mono L0.size)
  have HL : Hid (Below w.heap.size w W) := L
  have ne := gw_ne L
  clear hb L0 hT L
  go_wp2_with fail
  have qa := fun t : Gw W => (A.below t.below).at11
  have qb := fun t : Gw W => (B.below t.below).at11
  have a0 := fun t : Gw W => (qa t).1
  have a1 := fun t : Gw W => (qa t).2.1
  have a2 := fun t : Gw W => (qa t).2.2.1
  have a3 := fun t : Gw W => (qa t).2.2.2.1
  have a4 := fun t : Gw W => (qa t).2.2.2.2.1
  have a5 := fun t : Gw W => (qa t).2.2.2.2.2.1
  have a6 := fun t : Gw W => (qa t).2.2.2.2.2.2.1
  have a7 := fun t : Gw W => (qa t).2.2.2.2.2.2.2.1
  have a8 := fun t : Gw W => (qa t).2.2.2.2.2.2.2.2.1
  have a9 := fun t : Gw W => (qa t).2.2.2.2.2.2.2.2.2.1
  have a10 := fun t : Gw W => (qa t).2.2.2.2.2.2.2.2.2.2
  have b0 := fun t : Gw W => (qb t).1
  have b1 := fun t : Gw W => (qb t).2.1
  have b2 := fun t : Gw W => (qb t).2.2.1
  have b3 := fun t : Gw W => (qb t).2.2.2.1
  have b4 := fun t : Gw W => (qb t).2.2.2.2.1
  have b5 := fun t : Gw W => (qb t).2.2.2.2.2.1
  have b6 := fun t : Gw W => (qb t).2.2.2.2.2.2.1
  have b7 := fun t : Gw W => (qb t).2.2.2.2.2.2.2.1
  have b8 := fun t : Gw W => (qb t).2.2.2.2.2.2.2.2.1
  have b9 := fun t : Gw W => (qb t).2.2.2.2.2.2.2.2.2.1
  have b10 := fun t : Gw W => (qb t).2.2.2.2.2.2.2.2.2.2
  clear A B qa qb
  refine wp_region_gw (by kernel_rfl) (by kernel_rfl) ?_
  repeat (go_big_quiet_step (first
    | (go_at_call 24; exact gw_call (C1 _))
    | (go_at_call 25; exact gw_call (C2 _))))
  refine wpQuiet_nil ?_
  rintro _ ⟨t, rfl⟩
  go_wp2
  go_ret
  exact ⟨rfl, HL.out.trans (t.below.mono HL.out.size)⟩

end Go.Proofs.YtobmpjmpffnoiaaDoor
