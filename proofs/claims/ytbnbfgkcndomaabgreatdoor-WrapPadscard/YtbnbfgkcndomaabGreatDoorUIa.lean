/-
  Nodes that may be: nodeMayBe, by the first thing that may not be.
-/
import Derived.Test.YtbnbfgkcndomaabGreatDoorUI0
namespace Go.Proofs.YtbnbfgkcndomaabGreatDoor
open Go.RowKit Go.Shelf

set_option maxRecDepth 10000 in
set_option maxHeartbeats 8000000 in
theorem nm_0 (n : Nd) (w : World) (hT : Tab w) (e0 : txB n.name 64 = false) :
    Calls Tryz.prog 61 #[(Value.agg #[.int .u8 (n.kind : Nat), .string n.name, .string n.cls, .string n.text, .int .i64 n.minW, .int .i64 n.minH, .int .i64 n.maxW, .int .i64 n.maxH, .int .i64 n.grow, .int .i64 n.order, .bool n.column, .int .i64 n.columns, .int .i64 n.span, .int .i64 n.gap, .int .i64 n.offX, .int .i64 n.offY, .bool n.hidden, .slice n.wA n.wN n.wC, .slice n.kA n.kN n.kC])] w fun e w' => e = .returned (.bool false) ∧ Below w.heap.size w w' := by
  have X1 : Hid (∀ w, Tab w → Calls Tryz.prog 109 #[.string n.name, .int .i64 64] w fun e w' => e = .returned (.bool (txB n.name 64)) ∧ Below w.heap.size w w') := fun w h => textMay_any n.name 64 64 rfl (by omega) w h
  have X2 : Hid (∀ w, Tab w → Calls Tryz.prog 109 #[.string n.cls, .int .i64 64] w fun e w' => e = .returned (.bool (txB n.cls 64)) ∧ Below w.heap.size w w') := fun w h => textMay_any n.cls 64 64 rfl (by omega) w h
  have X3 : Hid (∀ w, Tab w → Calls Tryz.prog 109 #[.string n.text, .int .i64 65536] w fun e w' => e = .returned (.bool (txB n.text 65536)) ∧ Below w.heap.size w w') := fun w h => textMay_any n.text 65536 65536 rfl (by omega) w h
  have Y1 : Hid (∀ w, Calls Tryz.prog 71 #[.agg #[.int .i64 n.minW, .int .i64 n.minH]] w fun e w' => e = .returned (.bool (szB n.minW n.minH)) ∧ w' = w.alloc (.cells #[.int .i64 n.minW, .int .i64 n.minH] 23)) := fun w => sizeMay_ex _ _ w
  have Y2 : Hid (∀ w, Calls Tryz.prog 71 #[.agg #[.int .i64 n.maxW, .int .i64 n.maxH]] w fun e w' => e = .returned (.bool (szB n.maxW n.maxH)) ∧ w' = w.alloc (.cells #[.int .i64 n.maxW, .int .i64 n.maxH] 23)) := fun w => sizeMay_ex _ _ w
  have Z1 : Hid (∀ lo hi w, Calls Tryz.prog 110 #[.int .i64 lo, .int .i64 hi] w fun e w' => e = .returned (.bool (moB lo hi)) ∧ w' = w) := mostMay_any
  have V1 : Hid (∀ a lo hi w, Calls Tryz.prog 76 #[.int .i64 a, .int .i64 lo, .int .i64 hi] w fun e w' => e = .returned (.bool (fromTo a lo hi)) ∧ w' = w) := pwithin_any
  have HT : Hid (Tab w) := hT
  clear hT
  have HA : Hid (Blk (w.alloc (.cells (#[.int .u8 (n.kind : Nat), .string n.name, .string n.cls, .string n.text, .int .i64 n.minW, .int .i64 n.minH, .int .i64 n.maxW, .int .i64 n.maxH, .int .i64 n.grow, .int .i64 n.order, .bool n.column, .int .i64 n.columns, .int .i64 n.span, .int .i64 n.gap, .int .i64 n.offX, .int .i64 n.offY, .bool n.hidden, .slice n.wA n.wN n.wC, .slice n.kA n.kN n.kC]) 29)) w.heap.size (#[.int .u8 (n.kind : Nat), .string n.name, .string n.cls, .string n.text, .int .i64 n.minW, .int .i64 n.minH, .int .i64 n.maxW, .int .i64 n.maxH, .int .i64 n.grow, .int .i64 n.order, .bool n.column, .int .i64 n.columns, .int .i64 n.span, .int .i64 n.gap, .int .i64 n.offX, .int .i64 n.offY, .bool n.hidden, .slice n.wA n.wN n.wC, .slice n.kA n.kN n.kC]) 29 ∧ Below w.heap.size w (w.alloc (.cells (#[.int .u8 (n.kind : Nat), .string n.name, .string n.cls, .string n.text, .int .i64 n.minW, .int .i64 n.minH, .int .i64 n.maxW, .int .i64 n.maxH, .int .i64 n.grow, .int .i64 n.order, .bool n.column, .int .i64 n.columns, .int .i64 n.span, .int .i64 n.gap, .int .i64 n.offX, .int .i64 n.offY, .bool n.hidden, .slice n.wA n.wN n.wC, .slice n.kA n.kN n.kC]) 29))) := ⟨Blk.new _ _ _, (Below.refl _ w).alloc (Nat.le_refl _) _⟩
  rw [e0] at X1
  go_enter Tryz.func61, Tryz.ntmps61
  go_wp2_with fail
  refine (X1.out _ (HT.out.below (HA.out.2))).mono ?_
  rintro e w1 ⟨rfl, hb⟩
  have A1 : Hid (Blk w1 w.heap.size (#[.int .u8 (n.kind : Nat), .string n.name, .string n.cls, .string n.text, .int .i64 n.minW, .int .i64 n.minH, .int .i64 n.maxW, .int .i64 n.maxH, .int .i64 n.grow, .int .i64 n.order, .bool n.column, .int .i64 n.columns, .int .i64 n.span, .int .i64 n.gap, .int .i64 n.offX, .int .i64 n.offY, .bool n.hidden, .slice n.wA n.wN n.wC, .slice n.kA n.kN n.kC]) 29) := HA.out.1.below hb
  have L1 : Hid (Below w.heap.size w w1) := HA.out.2.trans (hb.mono HA.out.2.size)
  clear hb
  go_wp2
  go_ret
  exact ⟨rfl, L1.out⟩

set_option maxRecDepth 10000 in
set_option maxHeartbeats 8000000 in
theorem nm_4 (n : Nd) (w : World) (hT : Tab w) (e0 : txB n.name 64 = true) (e1 : txB n.cls 64 = true) (e2 : txB n.text 65536 = true) (e3 : szB n.minW n.minH = true) (e4 : szB n.maxW n.maxH = false) :
    Calls Tryz.prog 61 #[(Value.agg #[.int .u8 (n.kind : Nat), .string n.name, .string n.cls, .string n.text, .int .i64 n.minW, .int .i64 n.minH, .int .i64 n.maxW, .int .i64 n.maxH, .int .i64 n.grow, .int .i64 n.order, .bool n.column, .int .i64 n.columns, .int .i64 n.span, .int .i64 n.gap, .int .i64 n.offX, .int .i64 n.offY, .bool n.hidden, .slice n.wA n.wN n.wC, .slice n.kA n.kN n.kC])] w fun e w' => e = .returned (.bool false) ∧ Below w.heap.size w w' := by
  have X1 : Hid (∀ w, Tab w → Calls Tryz.prog 109 #[.string n.name, .int .i64 64] w fun e w' => e = .returned (.bool (txB n.name 64)) ∧ Below w.heap.size w w') := fun w h => textMay_any n.name 64 64 rfl (by omega) w h
  have X2 : Hid (∀ w, Tab w → Calls Tryz.prog 109 #[.string n.cls, .int .i64 64] w fun e w' => e = .returned (.bool (txB n.cls 64)) ∧ Below w.heap.size w w') := fun w h => textMay_any n.cls 64 64 rfl (by omega) w h
  have X3 : Hid (∀ w, Tab w → Calls Tryz.prog 109 #[.string n.text, .int .i64 65536] w fun e w' => e = .returned (.bool (txB n.text 65536)) ∧ Below w.heap.size w w') := fun w h => textMay_any n.text 65536 65536 rfl (by omega) w h
  have Y1 : Hid (∀ w, Calls Tryz.prog 71 #[.agg #[.int .i64 n.minW, .int .i64 n.minH]] w fun e w' => e = .returned (.bool (szB n.minW n.minH)) ∧ w' = w.alloc (.cells #[.int .i64 n.minW, .int .i64 n.minH] 23)) := fun w => sizeMay_ex _ _ w
  have Y2 : Hid (∀ w, Calls Tryz.prog 71 #[.agg #[.int .i64 n.maxW, .int .i64 n.maxH]] w fun e w' => e = .returned (.bool (szB n.maxW n.maxH)) ∧ w' = w.alloc (.cells #[.int .i64 n.maxW, .int .i64 n.maxH] 23)) := fun w => sizeMay_ex _ _ w
  have Z1 : Hid (∀ lo hi w, Calls Tryz.prog 110 #[.int .i64 lo, .int .i64 hi] w fun e w' => e = .returned (.bool (moB lo hi)) ∧ w' = w) := mostMay_any
  have V1 : Hid (∀ a lo hi w, Calls Tryz.prog 76 #[.int .i64 a, .int .i64 lo, .int .i64 hi] w fun e w' => e = .returned (.bool (fromTo a lo hi)) ∧ w' = w) := pwithin_any
  have HT : Hid (Tab w) := hT
  clear hT
  have HA : Hid (Blk (w.alloc (.cells (#[.int .u8 (n.kind : Nat), .string n.name, .string n.cls, .string n.text, .int .i64 n.minW, .int .i64 n.minH, .int .i64 n.maxW, .int .i64 n.maxH, .int .i64 n.grow, .int .i64 n.order, .bool n.column, .int .i64 n.columns, .int .i64 n.span, .int .i64 n.gap, .int .i64 n.offX, .int .i64 n.offY, .bool n.hidden, .slice n.wA n.wN n.wC, .slice n.kA n.kN n.kC]) 29)) w.heap.size (#[.int .u8 (n.kind : Nat), .string n.name, .string n.cls, .string n.text, .int .i64 n.minW, .int .i64 n.minH, .int .i64 n.maxW, .int .i64 n.maxH, .int .i64 n.grow, .int .i64 n.order, .bool n.column, .int .i64 n.columns, .int .i64 n.span, .int .i64 n.gap, .int .i64 n.offX, .int .i64 n.offY, .bool n.hidden, .slice n.wA n.wN n.wC, .slice n.kA n.kN n.kC]) 29 ∧ Below w.heap.size w (w.alloc (.cells (#[.int .u8 (n.kind : Nat), .string n.name, .string n.cls, .string n.text, .int .i64 n.minW, .int .i64 n.minH, .int .i64 n.maxW, .int .i64 n.maxH, .int .i64 n.grow, .int .i64 n.order, .bool n.column, .int .i64 n.columns, .int .i64 n.span, .int .i64 n.gap, .int .i64 n.offX, .int .i64 n.offY, .bool n.hidden, .slice n.wA n.wN n.wC, .slice n.kA n.kN n.kC]) 29))) := ⟨Blk.new _ _ _, (Below.refl _ w).alloc (Nat.le_refl _) _⟩
  rw [e0] at X1
  rw [e1] at X2
  rw [e2] at X3
  rw [e3] at Y1
  rw [e4] at Y2
  go_enter Tryz.func61, Tryz.ntmps61
  go_wp2_with fail
  refine (X1.out _ (HT.out.below (HA.out.2))).mono ?_
  rintro e w1 ⟨rfl, hb⟩
  have A1 : Hid (Blk w1 w.heap.size (#[.int .u8 (n.kind : Nat), .string n.name, .string n.cls, .string n.text, .int .i64 n.minW, .int .i64 n.minH, .int .i64 n.maxW, .int .i64 n.maxH, .int .i64 n.grow, .int .i64 n.order, .bool n.column, .int .i64 n.columns, .int .i64 n.span, .int .i64 n.gap, .int .i64 n.offX, .int .i64 n.offY, .bool n.hidden, .slice n.wA n.wN n.wC, .slice n.kA n.kN n.kC]) 29) := HA.out.1.below hb
  have L1 : Hid (Below w.heap.size w w1) := HA.out.2.trans (hb.mono HA.out.2.size)
  clear hb
  have c2 := A1.out.cell 2
  go_wp2_with fail
  clear c2
  refine (X2.out _ (HT.out.below (L1.out))).mono ?_
  rintro e w2 ⟨rfl, hb⟩
  have A2 : Hid (Blk w2 w.heap.size (#[.int .u8 (n.kind : Nat), .string n.name, .string n.cls, .string n.text, .int .i64 n.minW, .int .i64 n.minH, .int .i64 n.maxW, .int .i64 n.maxH, .int .i64 n.grow, .int .i64 n.order, .bool n.column, .int .i64 n.columns, .int .i64 n.span, .int .i64 n.gap, .int .i64 n.offX, .int .i64 n.offY, .bool n.hidden, .slice n.wA n.wN n.wC, .slice n.kA n.kN n.kC]) 29) := A1.out.below hb
  have L2 : Hid (Below w.heap.size w w2) := L1.out.trans (hb.mono L1.out.size)
  clear hb
  have c3 := A2.out.cell 3
  go_wp2_with fail
  clear c3
  refine (X3.out _ (HT.out.below (L2.out))).mono ?_
  rintro e w3 ⟨rfl, hb⟩
  have A3 : Hid (Blk w3 w.heap.size (#[.int .u8 (n.kind : Nat), .string n.name, .string n.cls, .string n.text, .int .i64 n.minW, .int .i64 n.minH, .int .i64 n.maxW, .int .i64 n.maxH, .int .i64 n.grow, .int .i64 n.order, .bool n.column, .int .i64 n.columns, .int .i64 n.span, .int .i64 n.gap, .int .i64 n.offX, .int .i64 n.offY, .bool n.hidden, .slice n.wA n.wN n.wC, .slice n.kA n.kN n.kC]) 29) := A2.out.below hb
  have L3 : Hid (Below w.heap.size w w3) := L2.out.trans (hb.mono L2.out.size)
  clear hb
  have s0 : w.heap.size < w3.heap.size := A3.out.lt
  have c4 := A3.out.cell 4
  have c5 := A3.out.cell 5
  have c6 := A3.out.cell 6
  have c7 := A3.out.cell 7
  have c8 := A3.out.cell 8
  have c9 := A3.out.cell 9
  have c11 := A3.out.cell 11
  have c12 := A3.out.cell 12
  have c13 := A3.out.cell 13
  have c14 := A3.out.cell 14
  have c15 := A3.out.cell 15
  go_wp2_with (first
      | (go_at_call_of 71 (Value.agg #[.int .i64 n.minW, .int .i64 n.minH]); refine (Y1.out _).mono ?_; rintro e w4 ⟨rfl, rfl⟩)
      | (go_at_call_of 71 (Value.agg #[.int .i64 n.maxW, .int .i64 n.maxH]); refine (Y2.out _).mono ?_; rintro e w5 ⟨rfl, rfl⟩)
      | (go_at_call 110; refine (Z1.out _ _ _).mono ?_; rintro e w6 ⟨rfl, rfl⟩)
      | (go_at_call 76; refine (V1.out _ _ _ _).mono ?_; rintro e w7 ⟨rfl, rfl⟩))
  go_ret
  exact ⟨rfl, (L3.out.alloc (by omega) _).alloc (by simp; omega) _⟩

set_option maxRecDepth 10000 in
set_option maxHeartbeats 8000000 in
theorem nm_8 (n : Nd) (w : World) (hT : Tab w) (e0 : txB n.name 64 = true) (e1 : txB n.cls 64 = true) (e2 : txB n.text 65536 = true) (e3 : szB n.minW n.minH = true) (e4 : szB n.maxW n.maxH = true) (e5 : moB n.minW n.maxW = true) (e6 : moB n.minH n.maxH = true) (e7 : fromTo n.grow 0 16384 = true) (e8 : fromTo n.order (-1) 1048576 = false) :
    Calls Tryz.prog 61 #[(Value.agg #[.int .u8 (n.kind : Nat), .string n.name, .string n.cls, .string n.text, .int .i64 n.minW, .int .i64 n.minH, .int .i64 n.maxW, .int .i64 n.maxH, .int .i64 n.grow, .int .i64 n.order, .bool n.column, .int .i64 n.columns, .int .i64 n.span, .int .i64 n.gap, .int .i64 n.offX, .int .i64 n.offY, .bool n.hidden, .slice n.wA n.wN n.wC, .slice n.kA n.kN n.kC])] w fun e w' => e = .returned (.bool false) ∧ Below w.heap.size w w' := by
  have X1 : Hid (∀ w, Tab w → Calls Tryz.prog 109 #[.string n.name, .int .i64 64] w fun e w' => e = .returned (.bool (txB n.name 64)) ∧ Below w.heap.size w w') := fun w h => textMay_any n.name 64 64 rfl (by omega) w h
  have X2 : Hid (∀ w, Tab w → Calls Tryz.prog 109 #[.string n.cls, .int .i64 64] w fun e w' => e = .returned (.bool (txB n.cls 64)) ∧ Below w.heap.size w w') := fun w h => textMay_any n.cls 64 64 rfl (by omega) w h
  have X3 : Hid (∀ w, Tab w → Calls Tryz.prog 109 #[.string n.text, .int .i64 65536] w fun e w' => e = .returned (.bool (txB n.text 65536)) ∧ Below w.heap.size w w') := fun w h => textMay_any n.text 65536 65536 rfl (by omega) w h
  have Y1 : Hid (∀ w, Calls Tryz.prog 71 #[.agg #[.int .i64 n.minW, .int .i64 n.minH]] w fun e w' => e = .returned (.bool (szB n.minW n.minH)) ∧ w' = w.alloc (.cells #[.int .i64 n.minW, .int .i64 n.minH] 23)) := fun w => sizeMay_ex _ _ w
  have Y2 : Hid (∀ w, Calls Tryz.prog 71 #[.agg #[.int .i64 n.maxW, .int .i64 n.maxH]] w fun e w' => e = .returned (.bool (szB n.maxW n.maxH)) ∧ w' = w.alloc (.cells #[.int .i64 n.maxW, .int .i64 n.maxH] 23)) := fun w => sizeMay_ex _ _ w
  have Z1 : Hid (∀ lo hi w, Calls Tryz.prog 110 #[.int .i64 lo, .int .i64 hi] w fun e w' => e = .returned (.bool (moB lo hi)) ∧ w' = w) := mostMay_any
  have V1 : Hid (∀ a lo hi w, Calls Tryz.prog 76 #[.int .i64 a, .int .i64 lo, .int .i64 hi] w fun e w' => e = .returned (.bool (fromTo a lo hi)) ∧ w' = w) := pwithin_any
  have HT : Hid (Tab w) := hT
  clear hT
  have HA : Hid (Blk (w.alloc (.cells (#[.int .u8 (n.kind : Nat), .string n.name, .string n.cls, .string n.text, .int .i64 n.minW, .int .i64 n.minH, .int .i64 n.maxW, .int .i64 n.maxH, .int .i64 n.grow, .int .i64 n.order, .bool n.column, .int .i64 n.columns, .int .i64 n.span, .int .i64 n.gap, .int .i64 n.offX, .int .i64 n.offY, .bool n.hidden, .slice n.wA n.wN n.wC, .slice n.kA n.kN n.kC]) 29)) w.heap.size (#[.int .u8 (n.kind : Nat), .string n.name, .string n.cls, .string n.text, .int .i64 n.minW, .int .i64 n.minH, .int .i64 n.maxW, .int .i64 n.maxH, .int .i64 n.grow, .int .i64 n.order, .bool n.column, .int .i64 n.columns, .int .i64 n.span, .int .i64 n.gap, .int .i64 n.offX, .int .i64 n.offY, .bool n.hidden, .slice n.wA n.wN n.wC, .slice n.kA n.kN n.kC]) 29 ∧ Below w.heap.size w (w.alloc (.cells (#[.int .u8 (n.kind : Nat), .string n.name, .string n.cls, .string n.text, .int .i64 n.minW, .int .i64 n.minH, .int .i64 n.maxW, .int .i64 n.maxH, .int .i64 n.grow, .int .i64 n.order, .bool n.column, .int .i64 n.columns, .int .i64 n.span, .int .i64 n.gap, .int .i64 n.offX, .int .i64 n.offY, .bool n.hidden, .slice n.wA n.wN n.wC, .slice n.kA n.kN n.kC]) 29))) := ⟨Blk.new _ _ _, (Below.refl _ w).alloc (Nat.le_refl _) _⟩
  rw [e0] at X1
  rw [e1] at X2
  rw [e2] at X3
  rw [e3] at Y1
  rw [e4] at Y2
  go_enter Tryz.func61, Tryz.ntmps61
  go_wp2_with fail
  refine (X1.out _ (HT.out.below (HA.out.2))).mono ?_
  rintro e w1 ⟨rfl, hb⟩
  have A1 : Hid (Blk w1 w.heap.size (#[.int .u8 (n.kind : Nat), .string n.name, .string n.cls, .string n.text, .int .i64 n.minW, .int .i64 n.minH, .int .i64 n.maxW, .int .i64 n.maxH, .int .i64 n.grow, .int .i64 n.order, .bool n.column, .int .i64 n.columns, .int .i64 n.span, .int .i64 n.gap, .int .i64 n.offX, .int .i64 n.offY, .bool n.hidden, .slice n.wA n.wN n.wC, .slice n.kA n.kN n.kC]) 29) := HA.out.1.below hb
  have L1 : Hid (Below w.heap.size w w1) := HA.out.2.trans (hb.mono HA.out.2.size)
  clear hb
  have c2 := A1.out.cell 2
  go_wp2_with fail
  clear c2
  refine (X2.out _ (HT.out.below (L1.out))).mono ?_
  rintro e w2 ⟨rfl, hb⟩
  have A2 : Hid (Blk w2 w.heap.size (#[.int .u8 (n.kind : Nat), .string n.name, .string n.cls, .string n.text, .int .i64 n.minW, .int .i64 n.minH, .int .i64 n.maxW, .int .i64 n.maxH, .int .i64 n.grow, .int .i64 n.order, .bool n.column, .int .i64 n.columns, .int .i64 n.span, .int .i64 n.gap, .int .i64 n.offX, .int .i64 n.offY, .bool n.hidden, .slice n.wA n.wN n.wC, .slice n.kA n.kN n.kC]) 29) := A1.out.below hb
  have L2 : Hid (Below w.heap.size w w2) := L1.out.trans (hb.mono L1.out.size)
  clear hb
  have c3 := A2.out.cell 3
  go_wp2_with fail
  clear c3
  refine (X3.out _ (HT.out.below (L2.out))).mono ?_
  rintro e w3 ⟨rfl, hb⟩
  have A3 : Hid (Blk w3 w.heap.size (#[.int .u8 (n.kind : Nat), .string n.name, .string n.cls, .string n.text, .int .i64 n.minW, .int .i64 n.minH, .int .i64 n.maxW, .int .i64 n.maxH, .int .i64 n.grow, .int .i64 n.order, .bool n.column, .int .i64 n.columns, .int .i64 n.span, .int .i64 n.gap, .int .i64 n.offX, .int .i64 n.offY, .bool n.hidden, .slice n.wA n.wN n.wC, .slice n.kA n.kN n.kC]) 29) := A2.out.below hb
  have L3 : Hid (Below w.heap.size w w3) := L2.out.trans (hb.mono L2.out.size)
  clear hb
  have s0 : w.heap.size < w3.heap.size := A3.out.lt
  have c4 := A3.out.cell 4
  have c5 := A3.out.cell 5
  have c6 := A3.out.cell 6
  have c7 := A3.out.cell 7
  have c8 := A3.out.cell 8
  have c9 := A3.out.cell 9
  have c11 := A3.out.cell 11
  have c12 := A3.out.cell 12
  have c13 := A3.out.cell 13
  have c14 := A3.out.cell 14
  have c15 := A3.out.cell 15
  go_wp2_with (first
      | (go_at_call_of 71 (Value.agg #[.int .i64 n.minW, .int .i64 n.minH]); refine (Y1.out _).mono ?_; rintro e w4 ⟨rfl, rfl⟩)
      | (go_at_call_of 71 (Value.agg #[.int .i64 n.maxW, .int .i64 n.maxH]); refine (Y2.out _).mono ?_; rintro e w5 ⟨rfl, rfl⟩)
      | (go_at_call 110; refine (Z1.out _ _ _).mono ?_; rintro e w6 ⟨rfl, rfl⟩)
      | (go_at_call 76; refine (V1.out _ _ _ _).mono ?_; rintro e w7 ⟨rfl, rfl⟩))
  go_ret
  exact ⟨rfl, (L3.out.alloc (by omega) _).alloc (by simp; omega) _⟩

set_option maxRecDepth 10000 in
set_option maxHeartbeats 8000000 in
theorem nm_12 (n : Nd) (w : World) (hT : Tab w) (e0 : txB n.name 64 = true) (e1 : txB n.cls 64 = true) (e2 : txB n.text 65536 = true) (e3 : szB n.minW n.minH = true) (e4 : szB n.maxW n.maxH = true) (e5 : moB n.minW n.maxW = true) (e6 : moB n.minH n.maxH = true) (e7 : fromTo n.grow 0 16384 = true) (e8 : fromTo n.order (-1) 1048576 = true) (e9 : fromTo n.columns 0 64 = true) (e10 : fromTo n.span 0 64 = true) (e11 : fromTo n.gap 0 16384 = true) (e12 : fromTo n.offX 0 1048576 = false) :
    Calls Tryz.prog 61 #[(Value.agg #[.int .u8 (n.kind : Nat), .string n.name, .string n.cls, .string n.text, .int .i64 n.minW, .int .i64 n.minH, .int .i64 n.maxW, .int .i64 n.maxH, .int .i64 n.grow, .int .i64 n.order, .bool n.column, .int .i64 n.columns, .int .i64 n.span, .int .i64 n.gap, .int .i64 n.offX, .int .i64 n.offY, .bool n.hidden, .slice n.wA n.wN n.wC, .slice n.kA n.kN n.kC])] w fun e w' => e = .returned (.bool false) ∧ Below w.heap.size w w' := by
  have X1 : Hid (∀ w, Tab w → Calls Tryz.prog 109 #[.string n.name, .int .i64 64] w fun e w' => e = .returned (.bool (txB n.name 64)) ∧ Below w.heap.size w w') := fun w h => textMay_any n.name 64 64 rfl (by omega) w h
  have X2 : Hid (∀ w, Tab w → Calls Tryz.prog 109 #[.string n.cls, .int .i64 64] w fun e w' => e = .returned (.bool (txB n.cls 64)) ∧ Below w.heap.size w w') := fun w h => textMay_any n.cls 64 64 rfl (by omega) w h
  have X3 : Hid (∀ w, Tab w → Calls Tryz.prog 109 #[.string n.text, .int .i64 65536] w fun e w' => e = .returned (.bool (txB n.text 65536)) ∧ Below w.heap.size w w') := fun w h => textMay_any n.text 65536 65536 rfl (by omega) w h
  have Y1 : Hid (∀ w, Calls Tryz.prog 71 #[.agg #[.int .i64 n.minW, .int .i64 n.minH]] w fun e w' => e = .returned (.bool (szB n.minW n.minH)) ∧ w' = w.alloc (.cells #[.int .i64 n.minW, .int .i64 n.minH] 23)) := fun w => sizeMay_ex _ _ w
  have Y2 : Hid (∀ w, Calls Tryz.prog 71 #[.agg #[.int .i64 n.maxW, .int .i64 n.maxH]] w fun e w' => e = .returned (.bool (szB n.maxW n.maxH)) ∧ w' = w.alloc (.cells #[.int .i64 n.maxW, .int .i64 n.maxH] 23)) := fun w => sizeMay_ex _ _ w
  have Z1 : Hid (∀ lo hi w, Calls Tryz.prog 110 #[.int .i64 lo, .int .i64 hi] w fun e w' => e = .returned (.bool (moB lo hi)) ∧ w' = w) := mostMay_any
  have V1 : Hid (∀ a lo hi w, Calls Tryz.prog 76 #[.int .i64 a, .int .i64 lo, .int .i64 hi] w fun e w' => e = .returned (.bool (fromTo a lo hi)) ∧ w' = w) := pwithin_any
  have HT : Hid (Tab w) := hT
  clear hT
  have HA : Hid (Blk (w.alloc (.cells (#[.int .u8 (n.kind : Nat), .string n.name, .string n.cls, .string n.text, .int .i64 n.minW, .int .i64 n.minH, .int .i64 n.maxW, .int .i64 n.maxH, .int .i64 n.grow, .int .i64 n.order, .bool n.column, .int .i64 n.columns, .int .i64 n.span, .int .i64 n.gap, .int .i64 n.offX, .int .i64 n.offY, .bool n.hidden, .slice n.wA n.wN n.wC, .slice n.kA n.kN n.kC]) 29)) w.heap.size (#[.int .u8 (n.kind : Nat), .string n.name, .string n.cls, .string n.text, .int .i64 n.minW, .int .i64 n.minH, .int .i64 n.maxW, .int .i64 n.maxH, .int .i64 n.grow, .int .i64 n.order, .bool n.column, .int .i64 n.columns, .int .i64 n.span, .int .i64 n.gap, .int .i64 n.offX, .int .i64 n.offY, .bool n.hidden, .slice n.wA n.wN n.wC, .slice n.kA n.kN n.kC]) 29 ∧ Below w.heap.size w (w.alloc (.cells (#[.int .u8 (n.kind : Nat), .string n.name, .string n.cls, .string n.text, .int .i64 n.minW, .int .i64 n.minH, .int .i64 n.maxW, .int .i64 n.maxH, .int .i64 n.grow, .int .i64 n.order, .bool n.column, .int .i64 n.columns, .int .i64 n.span, .int .i64 n.gap, .int .i64 n.offX, .int .i64 n.offY, .bool n.hidden, .slice n.wA n.wN n.wC, .slice n.kA n.kN n.kC]) 29))) := ⟨Blk.new _ _ _, (Below.refl _ w).alloc (Nat.le_refl _) _⟩
  rw [e0] at X1
  rw [e1] at X2
  rw [e2] at X3
  rw [e3] at Y1
  rw [e4] at Y2
  go_enter Tryz.func61, Tryz.ntmps61
  go_wp2_with fail
  refine (X1.out _ (HT.out.below (HA.out.2))).mono ?_
  rintro e w1 ⟨rfl, hb⟩
  have A1 : Hid (Blk w1 w.heap.size (#[.int .u8 (n.kind : Nat), .string n.name, .string n.cls, .string n.text, .int .i64 n.minW, .int .i64 n.minH, .int .i64 n.maxW, .int .i64 n.maxH, .int .i64 n.grow, .int .i64 n.order, .bool n.column, .int .i64 n.columns, .int .i64 n.span, .int .i64 n.gap, .int .i64 n.offX, .int .i64 n.offY, .bool n.hidden, .slice n.wA n.wN n.wC, .slice n.kA n.kN n.kC]) 29) := HA.out.1.below hb
  have L1 : Hid (Below w.heap.size w w1) := HA.out.2.trans (hb.mono HA.out.2.size)
  clear hb
  have c2 := A1.out.cell 2
  go_wp2_with fail
  clear c2
  refine (X2.out _ (HT.out.below (L1.out))).mono ?_
  rintro e w2 ⟨rfl, hb⟩
  have A2 : Hid (Blk w2 w.heap.size (#[.int .u8 (n.kind : Nat), .string n.name, .string n.cls, .string n.text, .int .i64 n.minW, .int .i64 n.minH, .int .i64 n.maxW, .int .i64 n.maxH, .int .i64 n.grow, .int .i64 n.order, .bool n.column, .int .i64 n.columns, .int .i64 n.span, .int .i64 n.gap, .int .i64 n.offX, .int .i64 n.offY, .bool n.hidden, .slice n.wA n.wN n.wC, .slice n.kA n.kN n.kC]) 29) := A1.out.below hb
  have L2 : Hid (Below w.heap.size w w2) := L1.out.trans (hb.mono L1.out.size)
  clear hb
  have c3 := A2.out.cell 3
  go_wp2_with fail
  clear c3
  refine (X3.out _ (HT.out.below (L2.out))).mono ?_
  rintro e w3 ⟨rfl, hb⟩
  have A3 : Hid (Blk w3 w.heap.size (#[.int .u8 (n.kind : Nat), .string n.name, .string n.cls, .string n.text, .int .i64 n.minW, .int .i64 n.minH, .int .i64 n.maxW, .int .i64 n.maxH, .int .i64 n.grow, .int .i64 n.order, .bool n.column, .int .i64 n.columns, .int .i64 n.span, .int .i64 n.gap, .int .i64 n.offX, .int .i64 n.offY, .bool n.hidden, .slice n.wA n.wN n.wC, .slice n.kA n.kN n.kC]) 29) := A2.out.below hb
  have L3 : Hid (Below w.heap.size w w3) := L2.out.trans (hb.mono L2.out.size)
  clear hb
  have s0 : w.heap.size < w3.heap.size := A3.out.lt
  have c4 := A3.out.cell 4
  have c5 := A3.out.cell 5
  have c6 := A3.out.cell 6
  have c7 := A3.out.cell 7
  have c8 := A3.out.cell 8
  have c9 := A3.out.cell 9
  have c11 := A3.out.cell 11
  have c12 := A3.out.cell 12
  have c13 := A3.out.cell 13
  have c14 := A3.out.cell 14
  have c15 := A3.out.cell 15
  go_wp2_with (first
      | (go_at_call_of 71 (Value.agg #[.int .i64 n.minW, .int .i64 n.minH]); refine (Y1.out _).mono ?_; rintro e w4 ⟨rfl, rfl⟩)
      | (go_at_call_of 71 (Value.agg #[.int .i64 n.maxW, .int .i64 n.maxH]); refine (Y2.out _).mono ?_; rintro e w5 ⟨rfl, rfl⟩)
      | (go_at_call 110; refine (Z1.out _ _ _).mono ?_; rintro e w6 ⟨rfl, rfl⟩)
      | (go_at_call 76; refine (V1.out _ _ _ _).mono ?_; rintro e w7 ⟨rfl, rfl⟩))
  go_ret
  exact ⟨rfl, (L3.out.alloc (by omega) _).alloc (by simp; omega) _⟩

end Go.Proofs.YtbnbfgkcndomaabGreatDoor
