/-
  Nodes that may be: nodeMayBe.
-/
import Derived.Test.YtdbafcldpleogaaGreatDoorUIa
import Derived.Test.YtdbafcldpleogaaGreatDoorUIb
import Derived.Test.YtdbafcldpleogaaGreatDoorUIc
import Derived.Test.YtdbafcldpleogaaGreatDoorUId
namespace Go.Proofs.YtdbafcldpleogaaGreatDoor
open Go.RowKit Go.Shelf

theorem nodeMay_any (n : Nd) (w : World) (hT : Tab w) :
    Calls Tryz.prog 38 #[(Value.agg #[.int .u8 (n.kind : Nat), .string n.name, .string n.cls, .string n.text, .int .i64 n.minW, .int .i64 n.minH, .int .i64 n.maxW, .int .i64 n.maxH, .int .i64 n.grow, .int .i64 n.order, .bool n.column, .int .i64 n.columns, .int .i64 n.span, .int .i64 n.gap, .int .i64 n.offX, .int .i64 n.offY, .bool n.hidden, .slice n.wA n.wN n.wC, .slice n.kA n.kN n.kC])] w fun e w' => e = .returned (.bool (okN n)) ∧ Below w.heap.size w w' := by
  cases e0 : txB n.name 64
  · have h := nm_0 n w hT e0
    rwa [show okN n = false by simp only [okN, sideB, e0]; rfl]
  cases e1 : txB n.cls 64
  · have h := nm_1 n w hT e0 e1
    rwa [show okN n = false by simp only [okN, sideB, e0, e1]; rfl]
  cases e2 : txB n.text 65536
  · have h := nm_2 n w hT e0 e1 e2
    rwa [show okN n = false by simp only [okN, sideB, e0, e1, e2]; rfl]
  cases e3 : szB n.minW n.minH
  · have h := nm_3 n w hT e0 e1 e2 e3
    rwa [show okN n = false by simp only [okN, sideB, e0, e1, e2, e3]; rfl]
  cases e4 : szB n.maxW n.maxH
  · have h := nm_4 n w hT e0 e1 e2 e3 e4
    rwa [show okN n = false by simp only [okN, sideB, e0, e1, e2, e3, e4]; rfl]
  cases e5 : moB n.minW n.maxW
  · have h := nm_5 n w hT e0 e1 e2 e3 e4 e5
    rwa [show okN n = false by simp only [okN, sideB, e0, e1, e2, e3, e4, e5]; rfl]
  cases e6 : moB n.minH n.maxH
  · have h := nm_6 n w hT e0 e1 e2 e3 e4 e5 e6
    rwa [show okN n = false by simp only [okN, sideB, e0, e1, e2, e3, e4, e5, e6]; rfl]
  cases e7 : fromTo n.grow 0 16384
  · have h := nm_7 n w hT e0 e1 e2 e3 e4 e5 e6 e7
    rwa [show okN n = false by simp only [okN, sideB, e0, e1, e2, e3, e4, e5, e6, e7]; rfl]
  cases e8 : fromTo n.order (-1) 1048576
  · have h := nm_8 n w hT e0 e1 e2 e3 e4 e5 e6 e7 e8
    rwa [show okN n = false by simp only [okN, sideB, e0, e1, e2, e3, e4, e5, e6, e7, e8]; rfl]
  cases e9 : fromTo n.columns 0 64
  · have h := nm_9 n w hT e0 e1 e2 e3 e4 e5 e6 e7 e8 e9
    rwa [show okN n = false by simp only [okN, sideB, e0, e1, e2, e3, e4, e5, e6, e7, e8, e9]; rfl]
  cases e10 : fromTo n.span 0 64
  · have h := nm_10 n w hT e0 e1 e2 e3 e4 e5 e6 e7 e8 e9 e10
    rwa [show okN n = false by simp only [okN, sideB, e0, e1, e2, e3, e4, e5, e6, e7, e8, e9, e10]; rfl]
  cases e11 : fromTo n.gap 0 16384
  · have h := nm_11 n w hT e0 e1 e2 e3 e4 e5 e6 e7 e8 e9 e10 e11
    rwa [show okN n = false by simp only [okN, sideB, e0, e1, e2, e3, e4, e5, e6, e7, e8, e9, e10, e11]; rfl]
  cases e12 : fromTo n.offX 0 1048576
  · have h := nm_12 n w hT e0 e1 e2 e3 e4 e5 e6 e7 e8 e9 e10 e11 e12
    rwa [show okN n = false by simp only [okN, sideB, e0, e1, e2, e3, e4, e5, e6, e7, e8, e9, e10, e11, e12]; rfl]
  cases e13 : fromTo n.offY 0 1048576
  · have h := nm_13 n w hT e0 e1 e2 e3 e4 e5 e6 e7 e8 e9 e10 e11 e12 e13
    rwa [show okN n = false by simp only [okN, sideB, e0, e1, e2, e3, e4, e5, e6, e7, e8, e9, e10, e11, e12, e13]; rfl]
  have h := nm_14 n w hT e0 e1 e2 e3 e4 e5 e6 e7 e8 e9 e10 e11 e12 e13
  rwa [show okN n = true by simp only [okN, sideB, e0, e1, e2, e3, e4, e5, e6, e7, e8, e9, e10, e11, e12, e13]; rfl]

end Go.Proofs.YtdbafcldpleogaaGreatDoor
