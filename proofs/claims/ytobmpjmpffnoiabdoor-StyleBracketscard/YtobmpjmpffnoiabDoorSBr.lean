/-
  The walk of the statement StyleBrackets: looks beneath one another go in any brackets.
-/
import Derived.Test.YtobmpjmpffnoiabDoorSX5
import Derived.Test.YtobmpjmpffnoiabDoorSY1
namespace Go.Proofs.YtobmpjmpffnoiabDoor
open Go.RowKit Go.Shelf

theorem tb_h4 (b0 b1 b2 b3 : Bool) : tb (h4 b0 b1 b2 b3) 0 = b0 ∧ tb (h4 b0 b1 b2 b3) 1 = b1 ∧ tb (h4 b0 b1 b2 b3) 2 = b2 ∧ tb (h4 b0 b1 b2 b3) 3 = b3 := by
  cases b0 <;> cases b1 <;> cases b2 <;> cases b3 <;> decide
theorem h4_lt (b0 b1 b2 b3 : Bool) : h4 b0 b1 b2 b3 < 256 := by
  cases b0 <;> cases b1 <;> cases b2 <;> cases b3 <;> decide
theorem un_has (a b : Lk) : (un a b).has < 256 := h4_lt _ _ _ _
theorem bif3 {α : Type} (x y z : Bool) (p q r s : α) : (bif (x || y) then (bif x then p else bif y then q else s) else bif z then r else s) = (bif x then p else bif (y || z) then (bif y then q else bif z then r else s) else s) := by
  cases x <;> cases y <;> cases z <;> rfl
theorem un_assoc (a b c : Lk) : un (un a b) c = un a (un b c) := by
  unfold un
  simp only [(tb_h4 _ _ _ _).1, (tb_h4 _ _ _ _).2.1, (tb_h4 _ _ _ _).2.2.1, (tb_h4 _ _ _ _).2.2.2, bif3, Bool.or_assoc]
def full (a : Lk) : Lk := { a with has := 15 }
theorem un_full (a b : Lk) : un (full a) b = full a := by
  unfold un full
  simp only [show tb 15 0 = true from rfl, show tb 15 1 = true from rfl, show tb 15 2 = true from rfl, show tb 15 3 = true from rfl, Bool.true_or, cond_true]
  rfl
theorem un_zero : un Lk.zero Lk.zero = Lk.zero := rfl

set_option maxHeartbeats 4000000 in
theorem brackets_walk (a b c : Lk) (w : World) (hT : Tab w) (ha : a.has < 256) (hb : b.has < 256) (hc : c.has < 256) :
    Calls Tryd.prog 3 #[(Value.agg #[.int .u8 (a.has : Nat), .int .u8 a.r, .int .u8 a.g, .int .u8 a.b, .int .u8 a.a, .int .u8 a.r2, .int .u8 a.g2, .int .u8 a.b2, .int .u8 a.a2, .bool a.bd, .int .i64 a.pad]), (Value.agg #[.int .u8 (b.has : Nat), .int .u8 b.r, .int .u8 b.g, .int .u8 b.b, .int .u8 b.a, .int .u8 b.r2, .int .u8 b.g2, .int .u8 b.b2, .int .u8 b.a2, .bool b.bd, .int .i64 b.pad]), (Value.agg #[.int .u8 (c.has : Nat), .int .u8 c.r, .int .u8 c.g, .int .u8 c.b, .int .u8 c.a, .int .u8 c.r2, .int .u8 c.g2, .int .u8 c.b2, .int .u8 c.a2, .bool c.bd, .int .i64 c.pad])] w fun e w' => e = .returned (.bool true) ∧ Below w.heap.size w w' := by
  have U : ∀ (x y : Lk), x.has < 256 → y.has < 256 → ∀ w, Calls Tryd.prog 5 #[(Value.agg #[.int .u8 (x.has : Nat), .int .u8 x.r, .int .u8 x.g, .int .u8 x.b, .int .u8 x.a, .int .u8 x.r2, .int .u8 x.g2, .int .u8 x.b2, .int .u8 x.a2, .bool x.bd, .int .i64 x.pad]), (Value.agg #[.int .u8 (y.has : Nat), .int .u8 y.r, .int .u8 y.g, .int .u8 y.b, .int .u8 y.a, .int .u8 y.r2, .int .u8 y.g2, .int .u8 y.b2, .int .u8 y.a2, .bool y.bd, .int .i64 y.pad])] w fun e w' => e = .returned (Value.agg #[.int .u8 ((un x y).has : Nat), .int .u8 (un x y).r, .int .u8 (un x y).g, .int .u8 (un x y).b, .int .u8 (un x y).a, .int .u8 (un x y).r2, .int .u8 (un x y).g2, .int .u8 (un x y).b2, .int .u8 (un x y).a2, .bool (un x y).bd, .int .i64 (un x y).pad]) ∧ Below w.heap.size w w' := fun x y hx hy w => un_ly x y ▸ under_any x y w hx hy
  have C1 := U a b ha hb
  have C2 := U (un a b) c (un_has _ _) hc
  have C3 := U b c hb hc
  have C4 := U a (un b c) ha (un_has _ _)
  have C5 := U (full a) b (by show 15 < 256; decide) hb
  have C6 := U Lk.zero Lk.zero (by decide) (by decide)
  rw [un_assoc] at C2
  rw [un_full] at C5
  rw [un_zero] at C6
  have E1 := fun w => eql_look (un a (un b c)) (un a (un b c)) w
  have E2 := fun w => eql_look (full a) (full a) w
  have E3 := fun w => eql_look Lk.zero Lk.zero w
  simp only [eqL_refl] at E1 E2 E3
  clear U
  generalize un a (un b c) = y at *
  generalize un a b = x1 at *
  generalize un b c = x2 at *
  simp only [full, Lk.zero] at C5 C6 E2 E3
  go_enter Tryd.func3, Tryd.ntmps3
  go_wp2_with fail
  have A := ((Blk.new w (#[.int .u8 (a.has : Nat), .int .u8 a.r, .int .u8 a.g, .int .u8 a.b, .int .u8 a.a, .int .u8 a.r2, .int .u8 a.g2, .int .u8 a.b2, .int .u8 a.a2, .bool a.bd, .int .i64 a.pad]) 25).alloc (.cells (#[.int .u8 (b.has : Nat), .int .u8 b.r, .int .u8 b.g, .int .u8 b.b, .int .u8 b.a, .int .u8 b.r2, .int .u8 b.g2, .int .u8 b.b2, .int .u8 b.a2, .bool b.bd, .int .i64 b.pad]) 25)).alloc (.cells (#[.int .u8 (c.has : Nat), .int .u8 c.r, .int .u8 c.g, .int .u8 c.b, .int .u8 c.a, .int .u8 c.r2, .int .u8 c.g2, .int .u8 c.b2, .int .u8 c.a2, .bool c.bd, .int .i64 c.pad]) 25)
  have B := (Blk.new (w.alloc (.cells (#[.int .u8 (a.has : Nat), .int .u8 a.r, .int .u8 a.g, .int .u8 a.b, .int .u8 a.a, .int .u8 a.r2, .int .u8 a.g2, .int .u8 a.b2, .int .u8 a.a2, .bool a.bd, .int .i64 a.pad]) 25)) (#[.int .u8 (b.has : Nat), .int .u8 b.r, .int .u8 b.g, .int .u8 b.b, .int .u8 b.a, .int .u8 b.r2, .int .u8 b.g2, .int .u8 b.b2, .int .u8 b.a2, .bool b.bd, .int .i64 b.pad]) 25).alloc (.cells (#[.int .u8 (c.has : Nat), .int .u8 c.r, .int .u8 c.g, .int .u8 c.b, .int .u8 c.a, .int .u8 c.r2, .int .u8 c.g2, .int .u8 c.b2, .int .u8 c.a2, .bool c.bd, .int .i64 c.pad]) 25)
  have C := Blk.new ((w.alloc (.cells (#[.int .u8 (a.has : Nat), .int .u8 a.r, .int .u8 a.g, .int .u8 a.b, .int .u8 a.a, .int .u8 a.r2, .int .u8 a.g2, .int .u8 a.b2, .int .u8 a.a2, .bool a.bd, .int .i64 a.pad]) 25)).alloc (.cells (#[.int .u8 (b.has : Nat), .int .u8 b.r, .int .u8 b.g, .int .u8 b.b, .int .u8 b.a, .int .u8 b.r2, .int .u8 b.g2, .int .u8 b.b2, .int .u8 b.a2, .bool b.bd, .int .i64 b.pad]) 25)) (#[.int .u8 (c.has : Nat), .int .u8 c.r, .int .u8 c.g, .int .u8 c.b, .int .u8 c.a, .int .u8 c.r2, .int .u8 c.g2, .int .u8 c.b2, .int .u8 c.a2, .bool c.bd, .int .i64 c.pad]) 25
  have L0 : Below w.heap.size w (((w.alloc (.cells (#[.int .u8 (a.has : Nat), .int .u8 a.r, .int .u8 a.g, .int .u8 a.b, .int .u8 a.a, .int .u8 a.r2, .int .u8 a.g2, .int .u8 a.b2, .int .u8 a.a2, .bool a.bd, .int .i64 a.pad]) 25)).alloc (.cells (#[.int .u8 (b.has : Nat), .int .u8 b.r, .int .u8 b.g, .int .u8 b.b, .int .u8 b.a, .int .u8 b.r2, .int .u8 b.g2, .int .u8 b.b2, .int .u8 b.a2, .bool b.bd, .int .i64 b.pad]) 25)).alloc (.cells (#[.int .u8 (c.has : Nat), .int .u8 c.r, .int .u8 c.g, .int .u8 c.b, .int .u8 c.a, .int .u8 c.r2, .int .u8 c.g2, .int .u8 c.b2, .int .u8 c.a2, .bool c.bd, .int .i64 c.pad]) 25)) := (((Below.refl _ w).alloc (Nat.le_refl _) _).alloc (by simp) _).alloc (by simp; omega) _
  simp only [World.size_alloc] at B C
  refine (alive_any _ (hT.below L0)).mono ?_
  rintro e W ⟨rfl, hb⟩
  replace A := A.below hb
  replace B := B.below hb
  replace C := C.below hb
  have L := L0.trans (hb.mono L0.size)
  have HL : Hid (Below w.heap.size w W ∧ Blk W w.heap.size (#[.int .u8 (a.has : Nat), .int .u8 a.r, .int .u8 a.g, .int .u8 a.b, .int .u8 a.a, .int .u8 a.r2, .int .u8 a.g2, .int .u8 a.b2, .int .u8 a.a2, .bool a.bd, .int .i64 a.pad]) 25 ∧ Blk W (w.heap.size + 1) (#[.int .u8 (b.has : Nat), .int .u8 b.r, .int .u8 b.g, .int .u8 b.b, .int .u8 b.a, .int .u8 b.r2, .int .u8 b.g2, .int .u8 b.b2, .int .u8 b.a2, .bool b.bd, .int .i64 b.pad]) 25 ∧ Blk W (w.heap.size + 1 + 1) (#[.int .u8 (c.has : Nat), .int .u8 c.r, .int .u8 c.g, .int .u8 c.b, .int .u8 c.a, .int .u8 c.r2, .int .u8 c.g2, .int .u8 c.b2, .int .u8 c.a2, .bool c.bd, .int .i64 c.pad]) 25) := ⟨L, A, B, C⟩
  have ne := gw_ne L
  clear hb L0 hT L
  clear A B C ne
  go_wp2_with fail
  refine wp_region_lit 5 1 1 (fun _ => .cells #[.int .u8 0, .int .u8 0, .int .u8 0, .int .u8 0, .int .u8 0, .int .u8 0, .int .u8 0, .int .u8 0, .int .u8 0, .bool false, .int .i64 0] 25) [8] (by kernel_rfl) (by kernel_rfl) rfl ?_ rfl ?_ ?_
  · intro k hk
    have hc : k = 0 := by omega
    subst hc; rfl
  · intro i h1 h2
    have hc : i = 5 := by omega
    subst hc
    exact ⟨_, rfl, rfl, fun _ _ => rfl⟩
  apply Exists.intro
  refine ⟨fun bs ne => ?_, ?_⟩
  · have KA := HL.out.2.1
    have KB := HL.out.2.2.1
    have KC := HL.out.2.2.2
    have a0 := fun t : Gb W bs => (KA.below t.below).at11.1
    have a1 := fun t : Gb W bs => (KA.below t.below).at11.2.1
    have a2 := fun t : Gb W bs => (KA.below t.below).at11.2.2.1
    have a3 := fun t : Gb W bs => (KA.below t.below).at11.2.2.2.1
    have a4 := fun t : Gb W bs => (KA.below t.below).at11.2.2.2.2.1
    have a5 := fun t : Gb W bs => (KA.below t.below).at11.2.2.2.2.2.1
    have a6 := fun t : Gb W bs => (KA.below t.below).at11.2.2.2.2.2.2.1
    have a7 := fun t : Gb W bs => (KA.below t.below).at11.2.2.2.2.2.2.2.1
    have a8 := fun t : Gb W bs => (KA.below t.below).at11.2.2.2.2.2.2.2.2.1
    have a9 := fun t : Gb W bs => (KA.below t.below).at11.2.2.2.2.2.2.2.2.2.1
    have a10 := fun t : Gb W bs => (KA.below t.below).at11.2.2.2.2.2.2.2.2.2.2
    have b0 := fun t : Gb W bs => (KB.below t.below).at11.1
    have b1 := fun t : Gb W bs => (KB.below t.below).at11.2.1
    have b2 := fun t : Gb W bs => (KB.below t.below).at11.2.2.1
    have b3 := fun t : Gb W bs => (KB.below t.below).at11.2.2.2.1
    have b4 := fun t : Gb W bs => (KB.below t.below).at11.2.2.2.2.1
    have b5 := fun t : Gb W bs => (KB.below t.below).at11.2.2.2.2.2.1
    have b6 := fun t : Gb W bs => (KB.below t.below).at11.2.2.2.2.2.2.1
    have b7 := fun t : Gb W bs => (KB.below t.below).at11.2.2.2.2.2.2.2.1
    have b8 := fun t : Gb W bs => (KB.below t.below).at11.2.2.2.2.2.2.2.2.1
    have b9 := fun t : Gb W bs => (KB.below t.below).at11.2.2.2.2.2.2.2.2.2.1
    have b10 := fun t : Gb W bs => (KB.below t.below).at11.2.2.2.2.2.2.2.2.2.2
    have c0 := fun t : Gb W bs => (KC.below t.below).at11.1
    have c1 := fun t : Gb W bs => (KC.below t.below).at11.2.1
    have c2 := fun t : Gb W bs => (KC.below t.below).at11.2.2.1
    have c3 := fun t : Gb W bs => (KC.below t.below).at11.2.2.2.1
    have c4 := fun t : Gb W bs => (KC.below t.below).at11.2.2.2.2.1
    have c5 := fun t : Gb W bs => (KC.below t.below).at11.2.2.2.2.2.1
    have c6 := fun t : Gb W bs => (KC.below t.below).at11.2.2.2.2.2.2.1
    have c7 := fun t : Gb W bs => (KC.below t.below).at11.2.2.2.2.2.2.2.1
    have c8 := fun t : Gb W bs => (KC.below t.below).at11.2.2.2.2.2.2.2.2.1
    have c9 := fun t : Gb W bs => (KC.below t.below).at11.2.2.2.2.2.2.2.2.2.1
    have c10 := fun t : Gb W bs => (KC.below t.below).at11.2.2.2.2.2.2.2.2.2.2
    clear KA KB KC
    simp only [List.take_succ_cons, List.take_zero]
    repeat (go_big_quiet_step (first
      | (go_at_call 5; first | exact gb_call (C1 _) | exact gb_call (C2 _))))
    exact wpQuiet_nil rfl
  intro bl wr hb hlo _
  obtain ⟨k1, k2⟩ := hlo 5 (by omega) (by omega)
  obtain ⟨c1, f1, l1⟩ := heap_cells k2
  have KZ : Blk wr (bl 5) #[.int .u8 0, .int .u8 0, .int .u8 0, .int .u8 0, .int .u8 0, .int .u8 0, .int .u8 0, .int .u8 0, .int .u8 0, .bool false, .int .i64 0] 25 := k2
  simp only [layL, ptr]
  generalize bl 5 = g8 at *
  clear hlo k2
  refine wpAny_one 6 (by kernel_rfl) rfl ?_
  intro K hK
  go_simp
  refine hK _ _ ?_
  clear hK K
  refine wpAny_done (by kernel_rfl) ?_ _
  have hne8 : g8 ≠ w.heap.size ∧ g8 ≠ w.heap.size + 1 ∧ g8 ≠ w.heap.size + 1 + 1 ∧ w.heap.size ≤ g8 := by
    have := HL.out.2.2.2.lt
    omega
  have X8 := KZ.put11 (.int .u8 (y.has : Nat)) (.int .u8 y.r) (.int .u8 y.g) (.int .u8 y.b) (.int .u8 y.a) (.int .u8 y.r2) (.int .u8 y.g2) (.int .u8 y.b2) (.int .u8 y.a2) (.bool y.bd) (.int .i64 y.pad)
  have XA := (HL.out.2.1.below hb).set11 hne8.1 (.int .u8 (y.has : Nat)) (.int .u8 y.r) (.int .u8 y.g) (.int .u8 y.b) (.int .u8 y.a) (.int .u8 y.r2) (.int .u8 y.g2) (.int .u8 y.b2) (.int .u8 y.a2) (.bool y.bd) (.int .i64 y.pad)
  have XB := (HL.out.2.2.1.below hb).set11 hne8.2.1 (.int .u8 (y.has : Nat)) (.int .u8 y.r) (.int .u8 y.g) (.int .u8 y.b) (.int .u8 y.a) (.int .u8 y.r2) (.int .u8 y.g2) (.int .u8 y.b2) (.int .u8 y.a2) (.bool y.bd) (.int .i64 y.pad)
  have XC := (HL.out.2.2.2.below hb).set11 hne8.2.2.1 (.int .u8 (y.has : Nat)) (.int .u8 y.r) (.int .u8 y.g) (.int .u8 y.b) (.int .u8 y.a) (.int .u8 y.r2) (.int .u8 y.g2) (.int .u8 y.b2) (.int .u8 y.a2) (.bool y.bd) (.int .i64 y.pad)
  have XL := set11_below (HL.out.1.trans (hb.mono HL.out.1.size)) hne8.2.2.2 (.int .u8 (y.has : Nat)) (.int .u8 y.r) (.int .u8 y.g) (.int .u8 y.b) (.int .u8 y.a) (.int .u8 y.r2) (.int .u8 y.g2) (.int .u8 y.b2) (.int .u8 y.a2) (.bool y.bd) (.int .i64 y.pad)
  generalize hZ : (((((((((((wr.setCell ⟨g8, 0, none⟩ (.int .u8 (y.has : Nat))).setCell ⟨g8, 1, none⟩ (.int .u8 y.r)).setCell ⟨g8, 2, none⟩ (.int .u8 y.g)).setCell ⟨g8, 3, none⟩ (.int .u8 y.b)).setCell ⟨g8, 4, none⟩ (.int .u8 y.a)).setCell ⟨g8, 5, none⟩ (.int .u8 y.r2)).setCell ⟨g8, 6, none⟩ (.int .u8 y.g2)).setCell ⟨g8, 7, none⟩ (.int .u8 y.b2)).setCell ⟨g8, 8, none⟩ (.int .u8 y.a2)).setCell ⟨g8, 9, none⟩ (.bool y.bd)).setCell ⟨g8, 10, none⟩ (.int .i64 y.pad)) = X at *
  have HX : Hid (Below w.heap.size w X ∧ Blk X w.heap.size (#[.int .u8 (a.has : Nat), .int .u8 a.r, .int .u8 a.g, .int .u8 a.b, .int .u8 a.a, .int .u8 a.r2, .int .u8 a.g2, .int .u8 a.b2, .int .u8 a.a2, .bool a.bd, .int .i64 a.pad]) 25 ∧ Blk X (w.heap.size + 1) (#[.int .u8 (b.has : Nat), .int .u8 b.r, .int .u8 b.g, .int .u8 b.b, .int .u8 b.a, .int .u8 b.r2, .int .u8 b.g2, .int .u8 b.b2, .int .u8 b.a2, .bool b.bd, .int .i64 b.pad]) 25 ∧ Blk X (w.heap.size + 1 + 1) (#[.int .u8 (c.has : Nat), .int .u8 c.r, .int .u8 c.g, .int .u8 c.b, .int .u8 c.a, .int .u8 c.r2, .int .u8 c.g2, .int .u8 c.b2, .int .u8 c.a2, .bool c.bd, .int .i64 c.pad]) 25 ∧ Blk X g8 (#[.int .u8 (y.has : Nat), .int .u8 y.r, .int .u8 y.g, .int .u8 y.b, .int .u8 y.a, .int .u8 y.r2, .int .u8 y.g2, .int .u8 y.b2, .int .u8 y.a2, .bool y.bd, .int .i64 y.pad]) 25) := ⟨XL, XA, XB, XC, X8⟩
  clear hZ X8 XA XB XC XL KZ c1 f1 l1 hb k1 HL
  go_wp2_with fail
  refine wp_region_lit 5 1 1 (fun _ => .cells #[.int .u8 0, .int .u8 0, .int .u8 0, .int .u8 0, .int .u8 0, .int .u8 0, .int .u8 0, .int .u8 0, .int .u8 0, .bool false, .int .i64 0] 25) [9] (by kernel_rfl) (by kernel_rfl) rfl ?_ rfl ?_ ?_
  · intro k hk
    have hc : k = 0 := by omega
    subst hc; rfl
  · intro i h1 h2
    have hc : i = 5 := by omega
    subst hc
    exact ⟨_, rfl, rfl, fun _ _ => rfl⟩
  apply Exists.intro
  refine ⟨fun bs ne => ?_, ?_⟩
  · have KA := HX.out.2.1
    have KB := HX.out.2.2.1
    have KC := HX.out.2.2.2.1
    have a0 := fun t : Gb X bs => (KA.below t.below).at11.1
    have a1 := fun t : Gb X bs => (KA.below t.below).at11.2.1
    have a2 := fun t : Gb X bs => (KA.below t.below).at11.2.2.1
    have a3 := fun t : Gb X bs => (KA.below t.below).at11.2.2.2.1
    have a4 := fun t : Gb X bs => (KA.below t.below).at11.2.2.2.2.1
    have a5 := fun t : Gb X bs => (KA.below t.below).at11.2.2.2.2.2.1
    have a6 := fun t : Gb X bs => (KA.below t.below).at11.2.2.2.2.2.2.1
    have a7 := fun t : Gb X bs => (KA.below t.below).at11.2.2.2.2.2.2.2.1
    have a8 := fun t : Gb X bs => (KA.below t.below).at11.2.2.2.2.2.2.2.2.1
    have a9 := fun t : Gb X bs => (KA.below t.below).at11.2.2.2.2.2.2.2.2.2.1
    have a10 := fun t : Gb X bs => (KA.below t.below).at11.2.2.2.2.2.2.2.2.2.2
    have b0 := fun t : Gb X bs => (KB.below t.below).at11.1
    have b1 := fun t : Gb X bs => (KB.below t.below).at11.2.1
    have b2 := fun t : Gb X bs => (KB.below t.below).at11.2.2.1
    have b3 := fun t : Gb X bs => (KB.below t.below).at11.2.2.2.1
    have b4 := fun t : Gb X bs => (KB.below t.below).at11.2.2.2.2.1
    have b5 := fun t : Gb X bs => (KB.below t.below).at11.2.2.2.2.2.1
    have b6 := fun t : Gb X bs => (KB.below t.below).at11.2.2.2.2.2.2.1
    have b7 := fun t : Gb X bs => (KB.below t.below).at11.2.2.2.2.2.2.2.1
    have b8 := fun t : Gb X bs => (KB.below t.below).at11.2.2.2.2.2.2.2.2.1
    have b9 := fun t : Gb X bs => (KB.below t.below).at11.2.2.2.2.2.2.2.2.2.1
    have b10 := fun t : Gb X bs => (KB.below t.below).at11.2.2.2.2.2.2.2.2.2.2
    have c0 := fun t : Gb X bs => (KC.below t.below).at11.1
    have c1 := fun t : Gb X bs => (KC.below t.below).at11.2.1
    have c2 := fun t : Gb X bs => (KC.below t.below).at11.2.2.1
    have c3 := fun t : Gb X bs => (KC.below t.below).at11.2.2.2.1
    have c4 := fun t : Gb X bs => (KC.below t.below).at11.2.2.2.2.1
    have c5 := fun t : Gb X bs => (KC.below t.below).at11.2.2.2.2.2.1
    have c6 := fun t : Gb X bs => (KC.below t.below).at11.2.2.2.2.2.2.1
    have c7 := fun t : Gb X bs => (KC.below t.below).at11.2.2.2.2.2.2.2.1
    have c8 := fun t : Gb X bs => (KC.below t.below).at11.2.2.2.2.2.2.2.2.1
    have c9 := fun t : Gb X bs => (KC.below t.below).at11.2.2.2.2.2.2.2.2.2.1
    have c10 := fun t : Gb X bs => (KC.below t.below).at11.2.2.2.2.2.2.2.2.2.2
    clear KA KB KC
    simp only [List.take_succ_cons, List.take_zero]
    repeat (go_big_quiet_step (first
      | (go_at_call 5; first | exact gb_call (C3 _) | exact gb_call (C4 _))))
    exact wpQuiet_nil rfl
  intro bl wr hb hlo _
  obtain ⟨k1, k2⟩ := hlo 5 (by omega) (by omega)
  obtain ⟨c1, f1, l1⟩ := heap_cells k2
  have KZ : Blk wr (bl 5) #[.int .u8 0, .int .u8 0, .int .u8 0, .int .u8 0, .int .u8 0, .int .u8 0, .int .u8 0, .int .u8 0, .int .u8 0, .bool false, .int .i64 0] 25 := k2
  simp only [layL, ptr]
  generalize bl 5 = g9 at *
  clear hlo k2
  refine wpAny_one 6 (by kernel_rfl) rfl ?_
  intro K hK
  go_simp
  refine hK _ _ ?_
  clear hK K
  refine wpAny_done (by kernel_rfl) ?_ _
  have hne9 : g9 ≠ w.heap.size ∧ g9 ≠ w.heap.size + 1 ∧ g9 ≠ w.heap.size + 1 + 1 ∧ w.heap.size ≤ g9 ∧ g9 ≠ g8 := by
    have := HX.out.2.2.2.1.lt
    have := HX.out.2.2.2.2.lt
    have := hne8.2.2.2
    omega
  have Y9 := KZ.put11 (.int .u8 (y.has : Nat)) (.int .u8 y.r) (.int .u8 y.g) (.int .u8 y.b) (.int .u8 y.a) (.int .u8 y.r2) (.int .u8 y.g2) (.int .u8 y.b2) (.int .u8 y.a2) (.bool y.bd) (.int .i64 y.pad)
  have YA := (HX.out.2.1.below hb).set11 hne9.1 (.int .u8 (y.has : Nat)) (.int .u8 y.r) (.int .u8 y.g) (.int .u8 y.b) (.int .u8 y.a) (.int .u8 y.r2) (.int .u8 y.g2) (.int .u8 y.b2) (.int .u8 y.a2) (.bool y.bd) (.int .i64 y.pad)
  have YB := (HX.out.2.2.1.below hb).set11 hne9.2.1 (.int .u8 (y.has : Nat)) (.int .u8 y.r) (.int .u8 y.g) (.int .u8 y.b) (.int .u8 y.a) (.int .u8 y.r2) (.int .u8 y.g2) (.int .u8 y.b2) (.int .u8 y.a2) (.bool y.bd) (.int .i64 y.pad)
  have YC := (HX.out.2.2.2.1.below hb).set11 hne9.2.2.1 (.int .u8 (y.has : Nat)) (.int .u8 y.r) (.int .u8 y.g) (.int .u8 y.b) (.int .u8 y.a) (.int .u8 y.r2) (.int .u8 y.g2) (.int .u8 y.b2) (.int .u8 y.a2) (.bool y.bd) (.int .i64 y.pad)
  have Y8 := (HX.out.2.2.2.2.below hb).set11 hne9.2.2.2.2 (.int .u8 (y.has : Nat)) (.int .u8 y.r) (.int .u8 y.g) (.int .u8 y.b) (.int .u8 y.a) (.int .u8 y.r2) (.int .u8 y.g2) (.int .u8 y.b2) (.int .u8 y.a2) (.bool y.bd) (.int .i64 y.pad)
  have YL := set11_below (HX.out.1.trans (hb.mono HX.out.1.size)) hne9.2.2.2.1 (.int .u8 (y.has : Nat)) (.int .u8 y.r) (.int .u8 y.g) (.int .u8 y.b) (.int .u8 y.a) (.int .u8 y.r2) (.int .u8 y.g2) (.int .u8 y.b2) (.int .u8 y.a2) (.bool y.bd) (.int .i64 y.pad)
  generalize hZ : (((((((((((wr.setCell ⟨g9, 0, none⟩ (.int .u8 (y.has : Nat))).setCell ⟨g9, 1, none⟩ (.int .u8 y.r)).setCell ⟨g9, 2, none⟩ (.int .u8 y.g)).setCell ⟨g9, 3, none⟩ (.int .u8 y.b)).setCell ⟨g9, 4, none⟩ (.int .u8 y.a)).setCell ⟨g9, 5, none⟩ (.int .u8 y.r2)).setCell ⟨g9, 6, none⟩ (.int .u8 y.g2)).setCell ⟨g9, 7, none⟩ (.int .u8 y.b2)).setCell ⟨g9, 8, none⟩ (.int .u8 y.a2)).setCell ⟨g9, 9, none⟩ (.bool y.bd)).setCell ⟨g9, 10, none⟩ (.int .i64 y.pad)) = Y at *
  have HY : Hid (Below w.heap.size w Y ∧ Blk Y w.heap.size (#[.int .u8 (a.has : Nat), .int .u8 a.r, .int .u8 a.g, .int .u8 a.b, .int .u8 a.a, .int .u8 a.r2, .int .u8 a.g2, .int .u8 a.b2, .int .u8 a.a2, .bool a.bd, .int .i64 a.pad]) 25 ∧ Blk Y (w.heap.size + 1) (#[.int .u8 (b.has : Nat), .int .u8 b.r, .int .u8 b.g, .int .u8 b.b, .int .u8 b.a, .int .u8 b.r2, .int .u8 b.g2, .int .u8 b.b2, .int .u8 b.a2, .bool b.bd, .int .i64 b.pad]) 25 ∧ Blk Y (w.heap.size + 1 + 1) (#[.int .u8 (c.has : Nat), .int .u8 c.r, .int .u8 c.g, .int .u8 c.b, .int .u8 c.a, .int .u8 c.r2, .int .u8 c.g2, .int .u8 c.b2, .int .u8 c.a2, .bool c.bd, .int .i64 c.pad]) 25 ∧ Blk Y g8 (#[.int .u8 (y.has : Nat), .int .u8 y.r, .int .u8 y.g, .int .u8 y.b, .int .u8 y.a, .int .u8 y.r2, .int .u8 y.g2, .int .u8 y.b2, .int .u8 y.a2, .bool y.bd, .int .i64 y.pad]) 25 ∧ Blk Y g9 (#[.int .u8 (y.has : Nat), .int .u8 y.r, .int .u8 y.g, .int .u8 y.b, .int .u8 y.a, .int .u8 y.r2, .int .u8 y.g2, .int .u8 y.b2, .int .u8 y.a2, .bool y.bd, .int .i64 y.pad]) 25) := ⟨YL, YA, YB, YC, Y8, Y9⟩
  obtain ⟨a0, a1, a2, a3, a4, a5, a6, a7, a8, a9, a10⟩ := YA.at11
  clear hZ Y8 Y9 YA YB YC YL KZ c1 f1 l1 hb k1 HX
  go_wp2_with fail
  have ZF := Blk.new Y #[.int .u8 15, .int .u8 a.r, .int .u8 a.g, .int .u8 a.b, .int .u8 a.a, .int .u8 a.r2, .int .u8 a.g2, .int .u8 a.b2, .int .u8 a.a2, .bool a.bd, .int .i64 a.pad] 25
  have ZB := HY.out.2.2.1.alloc (.cells #[.int .u8 15, .int .u8 a.r, .int .u8 a.g, .int .u8 a.b, .int .u8 a.a, .int .u8 a.r2, .int .u8 a.g2, .int .u8 a.b2, .int .u8 a.a2, .bool a.bd, .int .i64 a.pad] 25)
  have Z8 := HY.out.2.2.2.2.1.alloc (.cells #[.int .u8 15, .int .u8 a.r, .int .u8 a.g, .int .u8 a.b, .int .u8 a.a, .int .u8 a.r2, .int .u8 a.g2, .int .u8 a.b2, .int .u8 a.a2, .bool a.bd, .int .i64 a.pad] 25)
  have Z9 := HY.out.2.2.2.2.2.alloc (.cells #[.int .u8 15, .int .u8 a.r, .int .u8 a.g, .int .u8 a.b, .int .u8 a.a, .int .u8 a.r2, .int .u8 a.g2, .int .u8 a.b2, .int .u8 a.a2, .bool a.bd, .int .i64 a.pad] 25)
  have ZL : Below w.heap.size w (Y.alloc (.cells #[.int .u8 15, .int .u8 a.r, .int .u8 a.g, .int .u8 a.b, .int .u8 a.a, .int .u8 a.r2, .int .u8 a.g2, .int .u8 a.b2, .int .u8 a.a2, .bool a.bd, .int .i64 a.pad] 25)) := HY.out.1.alloc HY.out.1.size _
  generalize Y.alloc (.cells #[.int .u8 15, .int .u8 a.r, .int .u8 a.g, .int .u8 a.b, .int .u8 a.a, .int .u8 a.r2, .int .u8 a.g2, .int .u8 a.b2, .int .u8 a.a2, .bool a.bd, .int .i64 a.pad] 25) = Z at *
  have ne := gw_ne ZL
  have HZ : Hid (Below w.heap.size w Z) := ZL
  have qf := fun t : Gw Z => (ZF.below t.below).at11
  have qb := fun t : Gw Z => (ZB.below t.below).at11
  have q8 := fun t : Gw Z => (Z8.below t.below).at11
  have q9 := fun t : Gw Z => (Z9.below t.below).at11
  have e0 := fun t : Gw Z => (qf t).1
  have e1 := fun t : Gw Z => (qf t).2.1
  have e2 := fun t : Gw Z => (qf t).2.2.1
  have e3 := fun t : Gw Z => (qf t).2.2.2.1
  have e4 := fun t : Gw Z => (qf t).2.2.2.2.1
  have e5 := fun t : Gw Z => (qf t).2.2.2.2.2.1
  have e6 := fun t : Gw Z => (qf t).2.2.2.2.2.2.1
  have e7 := fun t : Gw Z => (qf t).2.2.2.2.2.2.2.1
  have e8 := fun t : Gw Z => (qf t).2.2.2.2.2.2.2.2.1
  have e9 := fun t : Gw Z => (qf t).2.2.2.2.2.2.2.2.2.1
  have e10 := fun t : Gw Z => (qf t).2.2.2.2.2.2.2.2.2.2
  have b0 := fun t : Gw Z => (qb t).1
  have b1 := fun t : Gw Z => (qb t).2.1
  have b2 := fun t : Gw Z => (qb t).2.2.1
  have b3 := fun t : Gw Z => (qb t).2.2.2.1
  have b4 := fun t : Gw Z => (qb t).2.2.2.2.1
  have b5 := fun t : Gw Z => (qb t).2.2.2.2.2.1
  have b6 := fun t : Gw Z => (qb t).2.2.2.2.2.2.1
  have b7 := fun t : Gw Z => (qb t).2.2.2.2.2.2.2.1
  have b8 := fun t : Gw Z => (qb t).2.2.2.2.2.2.2.2.1
  have b9 := fun t : Gw Z => (qb t).2.2.2.2.2.2.2.2.2.1
  have b10 := fun t : Gw Z => (qb t).2.2.2.2.2.2.2.2.2.2
  have g0 := fun t : Gw Z => (q8 t).1
  have g1 := fun t : Gw Z => (q8 t).2.1
  have g2 := fun t : Gw Z => (q8 t).2.2.1
  have g3 := fun t : Gw Z => (q8 t).2.2.2.1
  have g4 := fun t : Gw Z => (q8 t).2.2.2.2.1
  have g5 := fun t : Gw Z => (q8 t).2.2.2.2.2.1
  have g6 := fun t : Gw Z => (q8 t).2.2.2.2.2.2.1
  have g7 := fun t : Gw Z => (q8 t).2.2.2.2.2.2.2.1
  have g8 := fun t : Gw Z => (q8 t).2.2.2.2.2.2.2.2.1
  have g9 := fun t : Gw Z => (q8 t).2.2.2.2.2.2.2.2.2.1
  have g10 := fun t : Gw Z => (q8 t).2.2.2.2.2.2.2.2.2.2
  have h0 := fun t : Gw Z => (q9 t).1
  have h1 := fun t : Gw Z => (q9 t).2.1
  have h2 := fun t : Gw Z => (q9 t).2.2.1
  have h3 := fun t : Gw Z => (q9 t).2.2.2.1
  have h4 := fun t : Gw Z => (q9 t).2.2.2.2.1
  have h5 := fun t : Gw Z => (q9 t).2.2.2.2.2.1
  have h6 := fun t : Gw Z => (q9 t).2.2.2.2.2.2.1
  have h7 := fun t : Gw Z => (q9 t).2.2.2.2.2.2.2.1
  have h8 := fun t : Gw Z => (q9 t).2.2.2.2.2.2.2.2.1
  have h9 := fun t : Gw Z => (q9 t).2.2.2.2.2.2.2.2.2.1
  have h10 := fun t : Gw Z => (q9 t).2.2.2.2.2.2.2.2.2.2
  clear qf qb q8 q9 ZF ZB Z8 Z9 ZL HY
  refine wp_region_gw (by kernel_rfl) (by kernel_rfl) ?_
  repeat (go_big_quiet_step (first
    | (go_at_call 5; first | exact gw_call (C5 _) | exact gw_call (C6 _))))
  refine wpQuiet_nil ?_
  rintro _ ⟨t, rfl⟩
  go_wp2
  go_ret
  exact ⟨rfl, HZ.out.trans (t.below.mono HZ.out.size)⟩

end Go.Proofs.YtobmpjmpffnoiabDoor
