/-
  Nodes that may be, whole; Make without parts.
-/
import Derived.Test.YtbnbfgkcndomaabGreatDoorUIa
import Derived.Test.YtbnbfgkcndomaabGreatDoorUIb
import Derived.Test.YtbnbfgkcndomaabGreatDoorUIc
import Derived.Test.YtbnbfgkcndomaabGreatDoorUId
import Derived.Test.YtbnbfgkcndomaabGreatDoorUK
namespace Go.Proofs.YtbnbfgkcndomaabGreatDoor
open Go.RowKit Go.Shelf

theorem nodeMay_any (n : Nd) (w : World) (hT : Tab w) :
    Calls Tryz.prog 61 #[(Value.agg #[.int .u8 (n.kind : Nat), .string n.name, .string n.cls, .string n.text, .int .i64 n.minW, .int .i64 n.minH, .int .i64 n.maxW, .int .i64 n.maxH, .int .i64 n.grow, .int .i64 n.order, .bool n.column, .int .i64 n.columns, .int .i64 n.span, .int .i64 n.gap, .int .i64 n.offX, .int .i64 n.offY, .bool n.hidden, .slice n.wA n.wN n.wC, .slice n.kA n.kN n.kC])] w fun e w' => e = .returned (.bool (okN n)) ∧ Below w.heap.size w w' := by
  cases e0 : txB n.name 64
  · have h := nm_0 n w hT e0
    rwa [show okN n = false by simp only [okN, sideB, e0]; rfl]
  cases e1 : txB n.cls 64
  · have h := nm_1 n w hT e0 e1
    rwa [show okN n = false by simp only [okN, sideB, e0, e1]; rfl]
  cases e2 : txB n.text 65536
  · have h := nm_2 n w hT e0 e1 e2
    rwa [show okN n = false by simp only [okN, sideB, e0, e1, e2]; rfl]
  cases e3 : szB n.minW n.minH
  · have h := nm_3 n w hT e0 e1 e2 e3
    rwa [show okN n = false by simp only [okN, sideB, e0, e1, e2, e3]; rfl]
  cases e4 : szB n.maxW n.maxH
  · have h := nm_4 n w hT e0 e1 e2 e3 e4
    rwa [show okN n = false by simp only [okN, sideB, e0, e1, e2, e3, e4]; rfl]
  cases e5 : moB n.minW n.maxW
  · have h := nm_5 n w hT e0 e1 e2 e3 e4 e5
    rwa [show okN n = false by simp only [okN, sideB, e0, e1, e2, e3, e4, e5]; rfl]
  cases e6 : moB n.minH n.maxH
  · have h := nm_6 n w hT e0 e1 e2 e3 e4 e5 e6
    rwa [show okN n = false by simp only [okN, sideB, e0, e1, e2, e3, e4, e5, e6]; rfl]
  cases e7 : fromTo n.grow 0 16384
  · have h := nm_7 n w hT e0 e1 e2 e3 e4 e5 e6 e7
    rwa [show okN n = false by simp only [okN, sideB, e0, e1, e2, e3, e4, e5, e6, e7]; rfl]
  cases e8 : fromTo n.order (-1) 1048576
  · have h := nm_8 n w hT e0 e1 e2 e3 e4 e5 e6 e7 e8
    rwa [show okN n = false by simp only [okN, sideB, e0, e1, e2, e3, e4, e5, e6, e7, e8]; rfl]
  cases e9 : fromTo n.columns 0 64
  · have h := nm_9 n w hT e0 e1 e2 e3 e4 e5 e6 e7 e8 e9
    rwa [show okN n = false by simp only [okN, sideB, e0, e1, e2, e3, e4, e5, e6, e7, e8, e9]; rfl]
  cases e10 : fromTo n.span 0 64
  · have h := nm_10 n w hT e0 e1 e2 e3 e4 e5 e6 e7 e8 e9 e10
    rwa [show okN n = false by simp only [okN, sideB, e0, e1, e2, e3, e4, e5, e6, e7, e8, e9, e10]; rfl]
  cases e11 : fromTo n.gap 0 16384
  · have h := nm_11 n w hT e0 e1 e2 e3 e4 e5 e6 e7 e8 e9 e10 e11
    rwa [show okN n = false by simp only [okN, sideB, e0, e1, e2, e3, e4, e5, e6, e7, e8, e9, e10, e11]; rfl]
  cases e12 : fromTo n.offX 0 1048576
  · have h := nm_12 n w hT e0 e1 e2 e3 e4 e5 e6 e7 e8 e9 e10 e11 e12
    rwa [show okN n = false by simp only [okN, sideB, e0, e1, e2, e3, e4, e5, e6, e7, e8, e9, e10, e11, e12]; rfl]
  cases e13 : fromTo n.offY 0 1048576
  · have h := nm_13 n w hT e0 e1 e2 e3 e4 e5 e6 e7 e8 e9 e10 e11 e12 e13
    rwa [show okN n = false by simp only [okN, sideB, e0, e1, e2, e3, e4, e5, e6, e7, e8, e9, e10, e11, e12, e13]; rfl]
  have h := nm_14 n w hT e0 e1 e2 e3 e4 e5 e6 e7 e8 e9 e10 e11 e12 e13
  rwa [show okN n = true by simp only [okN, sideB, e0, e1, e2, e3, e4, e5, e6, e7, e8, e9, e10, e11, e12, e13]; rfl]

end Go.Proofs.YtbnbfgkcndomaabGreatDoor

namespace Go.Proofs.YtbnbfgkcndomaabGreatDoor
open Go.RowKit Go.Shelf

theorem okN_text {n : Nd} (h : okN n = true) : n.text.size ≤ 65536 ∧ n.name.size ≤ 64 := by
  simp only [okN, txB, Bool.and_eq_true, decide_eq_true_eq] at h
  exact ⟨h.2.2.1.1, h.1.1⟩

set_option maxHeartbeats 2000000 in
theorem make_kind (n : Nd) (v : Value) (w : World) (hk : kindB n.kind = false) :
    Calls Tryz.prog 20 #[(Value.agg #[.int .u8 (n.kind : Nat), .string n.name, .string n.cls, .string n.text, .int .i64 n.minW, .int .i64 n.minH, .int .i64 n.maxW, .int .i64 n.maxH, .int .i64 n.grow, .int .i64 n.order, .bool n.column, .int .i64 n.columns, .int .i64 n.span, .int .i64 n.gap, .int .i64 n.offX, .int .i64 n.offY, .bool n.hidden, .slice n.wA n.wN n.wC, .slice n.kA n.kN n.kC]), v] w fun e w' => e = .returned (.tuple #[.nilIface, .int .i64 60]) ∧ Below w.heap.size w w' := by
  have hI := isKind_any n.kind (w.alloc (.cells (#[.int .u8 (n.kind : Nat), .string n.name, .string n.cls, .string n.text, .int .i64 n.minW, .int .i64 n.minH, .int .i64 n.maxW, .int .i64 n.maxH, .int .i64 n.grow, .int .i64 n.order, .bool n.column, .int .i64 n.columns, .int .i64 n.span, .int .i64 n.gap, .int .i64 n.offX, .int .i64 n.offY, .bool n.hidden, .slice n.wA n.wN n.wC, .slice n.kA n.kN n.kC]) 29))
  rw [hk] at hI
  have HA : Hid (Blk (w.alloc (.cells (#[.int .u8 (n.kind : Nat), .string n.name, .string n.cls, .string n.text, .int .i64 n.minW, .int .i64 n.minH, .int .i64 n.maxW, .int .i64 n.maxH, .int .i64 n.grow, .int .i64 n.order, .bool n.column, .int .i64 n.columns, .int .i64 n.span, .int .i64 n.gap, .int .i64 n.offX, .int .i64 n.offY, .bool n.hidden, .slice n.wA n.wN n.wC, .slice n.kA n.kN n.kC]) 29)) w.heap.size (#[.int .u8 (n.kind : Nat), .string n.name, .string n.cls, .string n.text, .int .i64 n.minW, .int .i64 n.minH, .int .i64 n.maxW, .int .i64 n.maxH, .int .i64 n.grow, .int .i64 n.order, .bool n.column, .int .i64 n.columns, .int .i64 n.span, .int .i64 n.gap, .int .i64 n.offX, .int .i64 n.offY, .bool n.hidden, .slice n.wA n.wN n.wC, .slice n.kA n.kN n.kC]) 29 ∧ Below w.heap.size w (w.alloc (.cells (#[.int .u8 (n.kind : Nat), .string n.name, .string n.cls, .string n.text, .int .i64 n.minW, .int .i64 n.minH, .int .i64 n.maxW, .int .i64 n.maxH, .int .i64 n.grow, .int .i64 n.order, .bool n.column, .int .i64 n.columns, .int .i64 n.span, .int .i64 n.gap, .int .i64 n.offX, .int .i64 n.offY, .bool n.hidden, .slice n.wA n.wN n.wC, .slice n.kA n.kN n.kC]) 29))) := ⟨Blk.new _ _ _, (Below.refl _ w).alloc (Nat.le_refl _) _⟩
  go_enter Tryz.func20, Tryz.ntmps20
  go_wp2_with fail
  refine hI.mono ?_
  rintro e w1 ⟨rfl, rfl⟩
  generalize (Value.agg #[.int .u8 (n.kind : Nat), .string n.name, .string n.cls, .string n.text, .int .i64 n.minW, .int .i64 n.minH, .int .i64 n.maxW, .int .i64 n.maxH, .int .i64 n.grow, .int .i64 n.order, .bool n.column, .int .i64 n.columns, .int .i64 n.span, .int .i64 n.gap, .int .i64 n.offX, .int .i64 n.offY, .bool n.hidden, .slice n.wA n.wN n.wC, .slice n.kA n.kN n.kC]) = nv at *
  go_wp2
  exact bodyPost_ret (v := .tuple #[.nilIface, .int .i64 60]) (by simp [results, Tryz.results20, go_sem]) rfl ⟨rfl, HA.out.2⟩

set_option maxHeartbeats 2000000 in
theorem make_arg (n : Nd) (v : Value) (w : World) (T : Tbs w) (hk : kindB n.kind = true) (ho : okN n = false) :
    Calls Tryz.prog 20 #[(Value.agg #[.int .u8 (n.kind : Nat), .string n.name, .string n.cls, .string n.text, .int .i64 n.minW, .int .i64 n.minH, .int .i64 n.maxW, .int .i64 n.maxH, .int .i64 n.grow, .int .i64 n.order, .bool n.column, .int .i64 n.columns, .int .i64 n.span, .int .i64 n.gap, .int .i64 n.offX, .int .i64 n.offY, .bool n.hidden, .slice n.wA n.wN n.wC, .slice n.kA n.kN n.kC]), v] w fun e w' => e = .returned (.tuple #[.nilIface, .int .i64 2]) ∧ Below w.heap.size w w' := by
  have hI := isKind_any n.kind (w.alloc (.cells (#[.int .u8 (n.kind : Nat), .string n.name, .string n.cls, .string n.text, .int .i64 n.minW, .int .i64 n.minH, .int .i64 n.maxW, .int .i64 n.maxH, .int .i64 n.grow, .int .i64 n.order, .bool n.column, .int .i64 n.columns, .int .i64 n.span, .int .i64 n.gap, .int .i64 n.offX, .int .i64 n.offY, .bool n.hidden, .slice n.wA n.wN n.wC, .slice n.kA n.kN n.kC]) 29))
  rw [hk] at hI
  have hN := nodeMay_any n (w.alloc (.cells (#[.int .u8 (n.kind : Nat), .string n.name, .string n.cls, .string n.text, .int .i64 n.minW, .int .i64 n.minH, .int .i64 n.maxW, .int .i64 n.maxH, .int .i64 n.grow, .int .i64 n.order, .bool n.column, .int .i64 n.columns, .int .i64 n.span, .int .i64 n.gap, .int .i64 n.offX, .int .i64 n.offY, .bool n.hidden, .slice n.wA n.wN n.wC, .slice n.kA n.kN n.kC]) 29)) (T.alloc _).2.2
  rw [ho] at hN
  have HA : Hid (Blk (w.alloc (.cells (#[.int .u8 (n.kind : Nat), .string n.name, .string n.cls, .string n.text, .int .i64 n.minW, .int .i64 n.minH, .int .i64 n.maxW, .int .i64 n.maxH, .int .i64 n.grow, .int .i64 n.order, .bool n.column, .int .i64 n.columns, .int .i64 n.span, .int .i64 n.gap, .int .i64 n.offX, .int .i64 n.offY, .bool n.hidden, .slice n.wA n.wN n.wC, .slice n.kA n.kN n.kC]) 29)) w.heap.size (#[.int .u8 (n.kind : Nat), .string n.name, .string n.cls, .string n.text, .int .i64 n.minW, .int .i64 n.minH, .int .i64 n.maxW, .int .i64 n.maxH, .int .i64 n.grow, .int .i64 n.order, .bool n.column, .int .i64 n.columns, .int .i64 n.span, .int .i64 n.gap, .int .i64 n.offX, .int .i64 n.offY, .bool n.hidden, .slice n.wA n.wN n.wC, .slice n.kA n.kN n.kC]) 29 ∧ Below w.heap.size w (w.alloc (.cells (#[.int .u8 (n.kind : Nat), .string n.name, .string n.cls, .string n.text, .int .i64 n.minW, .int .i64 n.minH, .int .i64 n.maxW, .int .i64 n.maxH, .int .i64 n.grow, .int .i64 n.order, .bool n.column, .int .i64 n.columns, .int .i64 n.span, .int .i64 n.gap, .int .i64 n.offX, .int .i64 n.offY, .bool n.hidden, .slice n.wA n.wN n.wC, .slice n.kA n.kN n.kC]) 29))) := ⟨Blk.new _ _ _, (Below.refl _ w).alloc (Nat.le_refl _) _⟩
  have hl := load_node HA.out.1
  clear T hk ho
  go_enter Tryz.func20, Tryz.ntmps20
  go_wp2_with fail
  refine hI.mono ?_
  rintro e w1 ⟨rfl, rfl⟩
  go_upto_region 3 with fail
  refine Go.wp_region_lit ?_
  refine wpList_load rfl _ _ rfl _ _ rfl hl ?_
  clear hl
  generalize (Value.agg #[.int .u8 (n.kind : Nat), .string n.name, .string n.cls, .string n.text, .int .i64 n.minW, .int .i64 n.minH, .int .i64 n.maxW, .int .i64 n.maxH, .int .i64 n.grow, .int .i64 n.order, .bool n.column, .int .i64 n.columns, .int .i64 n.span, .int .i64 n.gap, .int .i64 n.offX, .int .i64 n.offY, .bool n.hidden, .slice n.wA n.wN n.wC, .slice n.kA n.kN n.kC]) = nv at *
  go_wp2_with fail
  refine hN.mono ?_
  rintro e w1 ⟨rfl, hb⟩
  go_wp2
  exact bodyPost_ret (v := .tuple #[.nilIface, .int .i64 2]) (by simp [results, Tryz.results20, go_sem]) rfl ⟨rfl, HA.out.2.trans (hb.mono HA.out.2.size)⟩

set_option maxRecDepth 4000 in
set_option maxHeartbeats 2000000 in
theorem make_nil (n : Nd) (w : World) (T : Tbs w) (hk : kindB n.kind = true) (ho : okN n = true) :
    Calls Tryz.prog 20 #[(Value.agg #[.int .u8 (n.kind : Nat), .string n.name, .string n.cls, .string n.text, .int .i64 n.minW, .int .i64 n.minH, .int .i64 n.maxW, .int .i64 n.maxH, .int .i64 n.grow, .int .i64 n.order, .bool n.column, .int .i64 n.columns, .int .i64 n.span, .int .i64 n.gap, .int .i64 n.offX, .int .i64 n.offY, .bool n.hidden, .slice n.wA n.wN n.wC, .slice n.kA n.kN n.kC]), .slice none 0 0] w fun e w' => ∃ b, e = .returned (.tuple #[.iface (tyOf n.kind).id (.pointer (some ⟨b, 0, none⟩)), .int .i64 0]) ∧ PtIn w' b (ptOf n none 0 0) ∧ w.heap.size ≤ b ∧ Below w.heap.size w w' := by
  have hI := isKind_any n.kind (w.alloc (.cells (#[.int .u8 (n.kind : Nat), .string n.name, .string n.cls, .string n.text, .int .i64 n.minW, .int .i64 n.minH, .int .i64 n.maxW, .int .i64 n.maxH, .int .i64 n.grow, .int .i64 n.order, .bool n.column, .int .i64 n.columns, .int .i64 n.span, .int .i64 n.gap, .int .i64 n.offX, .int .i64 n.offY, .bool n.hidden, .slice n.wA n.wN n.wC, .slice n.kA n.kN n.kC]) 29))
  rw [hk] at hI
  have hN := nodeMay_any n (w.alloc (.cells (#[.int .u8 (n.kind : Nat), .string n.name, .string n.cls, .string n.text, .int .i64 n.minW, .int .i64 n.minH, .int .i64 n.maxW, .int .i64 n.maxH, .int .i64 n.grow, .int .i64 n.order, .bool n.column, .int .i64 n.columns, .int .i64 n.span, .int .i64 n.gap, .int .i64 n.offX, .int .i64 n.offY, .bool n.hidden, .slice n.wA n.wN n.wC, .slice n.kA n.kN n.kC]) 29)) (T.alloc _).2.2
  rw [ho] at hN
  have hB : Hid (∀ W, Tbs W → Calls Tryz.prog 63 #[(Value.agg #[.int .u8 (n.kind : Nat), .string n.name, .string n.cls, .string n.text, .int .i64 n.minW, .int .i64 n.minH, .int .i64 n.maxW, .int .i64 n.maxH, .int .i64 n.grow, .int .i64 n.order, .bool n.column, .int .i64 n.columns, .int .i64 n.span, .int .i64 n.gap, .int .i64 n.offX, .int .i64 n.offY, .bool n.hidden, .slice n.wA n.wN n.wC, .slice n.kA n.kN n.kC]), .slice none 0 0] W fun e w' => ∃ b, e = .returned (.iface (tyOf n.kind).id (.pointer (some ⟨b, 0, none⟩))) ∧ PtIn w' b (ptOf n none 0 0) ∧ W.heap.size ≤ b ∧ Below W.heap.size W w') := fun W h => built_nil n W h hk (by have := (okN_text ho).1; omega)
  have hP : Hid (∀ W, Calls Tryz.prog 62 #[.int .u8 (n.kind : Nat)] W fun e w' => e = .returned (.int .i64 (mostP n.kind)) ∧ w' = W) := fun W => mostParts_any n.kind W
  have hp : ¬ mostP n.kind < 0 := by unfold mostP; split <;> (try split) <;> omega
  generalize mostP n.kind = mp at *
  have HA : Hid (Blk (w.alloc (.cells (#[.int .u8 (n.kind : Nat), .string n.name, .string n.cls, .string n.text, .int .i64 n.minW, .int .i64 n.minH, .int .i64 n.maxW, .int .i64 n.maxH, .int .i64 n.grow, .int .i64 n.order, .bool n.column, .int .i64 n.columns, .int .i64 n.span, .int .i64 n.gap, .int .i64 n.offX, .int .i64 n.offY, .bool n.hidden, .slice n.wA n.wN n.wC, .slice n.kA n.kN n.kC]) 29)) w.heap.size (#[.int .u8 (n.kind : Nat), .string n.name, .string n.cls, .string n.text, .int .i64 n.minW, .int .i64 n.minH, .int .i64 n.maxW, .int .i64 n.maxH, .int .i64 n.grow, .int .i64 n.order, .bool n.column, .int .i64 n.columns, .int .i64 n.span, .int .i64 n.gap, .int .i64 n.offX, .int .i64 n.offY, .bool n.hidden, .slice n.wA n.wN n.wC, .slice n.kA n.kN n.kC]) 29 ∧ Below w.heap.size w (w.alloc (.cells (#[.int .u8 (n.kind : Nat), .string n.name, .string n.cls, .string n.text, .int .i64 n.minW, .int .i64 n.minH, .int .i64 n.maxW, .int .i64 n.maxH, .int .i64 n.grow, .int .i64 n.order, .bool n.column, .int .i64 n.columns, .int .i64 n.span, .int .i64 n.gap, .int .i64 n.offX, .int .i64 n.offY, .bool n.hidden, .slice n.wA n.wN n.wC, .slice n.kA n.kN n.kC]) 29))) := ⟨Blk.new _ _ _, (Below.refl _ w).alloc (Nat.le_refl _) _⟩
  have hl := load_node HA.out.1
  have HV : Hid (∀ {W : World} {b : Nat} {t : TypeId}, Blk W b (#[.int .u8 (n.kind : Nat), .string n.name, .string n.cls, .string n.text, .int .i64 n.minW, .int .i64 n.minH, .int .i64 n.maxW, .int .i64 n.maxH, .int .i64 n.grow, .int .i64 n.order, .bool n.column, .int .i64 n.columns, .int .i64 n.span, .int .i64 n.gap, .int .i64 n.offX, .int .i64 n.offY, .bool n.hidden, .slice n.wA n.wN n.wC, .slice n.kA n.kN n.kC]) t → (Instr.loadAt 29 (.pointer (some ⟨b, 0, none⟩))).run Tryz.prog W = .ok (Value.agg #[.int .u8 (n.kind : Nat), .string n.name, .string n.cls, .string n.text, .int .i64 n.minW, .int .i64 n.minH, .int .i64 n.maxW, .int .i64 n.maxH, .int .i64 n.grow, .int .i64 n.order, .bool n.column, .int .i64 n.columns, .int .i64 n.span, .int .i64 n.gap, .int .i64 n.offX, .int .i64 n.offY, .bool n.hidden, .slice n.wA n.wN n.wC, .slice n.kA n.kN n.kC]) W) := load_node
  have HT : Hid (Tbs w) := T
  clear T hk ho
  go_enter Tryz.func20, Tryz.ntmps20
  go_wp2_with fail
  refine hI.mono ?_
  rintro e w1 ⟨rfl, rfl⟩
  go_upto_region 3 with fail
  refine Go.wp_region_lit ?_
  refine wpList_load rfl _ _ rfl _ _ rfl hl ?_
  clear hl hI
  generalize (Value.agg #[.int .u8 (n.kind : Nat), .string n.name, .string n.cls, .string n.text, .int .i64 n.minW, .int .i64 n.minH, .int .i64 n.maxW, .int .i64 n.maxH, .int .i64 n.grow, .int .i64 n.order, .bool n.column, .int .i64 n.columns, .int .i64 n.span, .int .i64 n.gap, .int .i64 n.offX, .int .i64 n.offY, .bool n.hidden, .slice n.wA n.wN n.wC, .slice n.kA n.kN n.kC]) = nv at *
  go_wp2_with fail
  refine hN.mono ?_
  rintro e w1 ⟨rfl, hb⟩
  have A1 : Hid (Blk w1 w.heap.size (#[.int .u8 (n.kind : Nat), .string n.name, .string n.cls, .string n.text, .int .i64 n.minW, .int .i64 n.minH, .int .i64 n.maxW, .int .i64 n.maxH, .int .i64 n.grow, .int .i64 n.order, .bool n.column, .int .i64 n.columns, .int .i64 n.span, .int .i64 n.gap, .int .i64 n.offX, .int .i64 n.offY, .bool n.hidden, .slice n.wA n.wN n.wC, .slice n.kA n.kN n.kC]) 29 ∧ Below w.heap.size w w1) := ⟨HA.out.1.below hb, HA.out.2.trans (hb.mono HA.out.2.size)⟩
  clear hb hN HA
  have c0 : w1.cell? ⟨w.heap.size, 0, none⟩ = some (.int .u8 (n.kind : Nat)) := A1.out.1.cell 0
  go_wp2_with fail
  refine (hP.out _).mono ?_
  rintro e w2 ⟨rfl, rfl⟩
  go_upto_region 9 with fail
  have hl := HV.out A1.out.1
  refine Go.wp_region_lit ?_
  refine wpList_load rfl _ _ rfl _ _ rfl hl ?_
  clear hl c0
  go_wp2_with fail
  refine (hB.out _ (HT.out.below A1.out.2)).mono ?_
  rintro e w3 ⟨b, rfl, hpt, hle, hb⟩
  go_wp2
  exact bodyPost_ret (v := .tuple #[.iface (tyOf n.kind).id (.pointer (some ⟨b, 0, none⟩)), .int .i64 0]) (by simp [results, Tryz.results20, go_sem]) rfl ⟨b, rfl, hpt, Nat.le_trans A1.out.2.size hle, A1.out.2.trans (hb.mono A1.out.2.size)⟩

end Go.Proofs.YtbnbfgkcndomaabGreatDoor
