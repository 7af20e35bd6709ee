/-
  Make, without parts to hold.
-/
import Derived.Test.YtdbafcldpleogaaGreatDoorUK
import Derived.Test.YtdbafcldpleogaaGreatDoorUI
namespace Go.Proofs.YtdbafcldpleogaaGreatDoor
open Go.RowKit Go.Shelf

theorem okN_text {n : Nd} (h : okN n = true) : n.text.size ≤ 65536 ∧ n.name.size ≤ 64 := by
  simp only [okN, txB, Bool.and_eq_true, decide_eq_true_eq] at h
  exact ⟨h.2.2.1.1, h.1.1⟩

set_option maxHeartbeats 2000000 in
theorem make_kind (n : Nd) (v : Value) (w : World) (hk : kindB n.kind = false) :
    Calls Tryz.prog 11 #[(Value.agg #[.int .u8 (n.kind : Nat), .string n.name, .string n.cls, .string n.text, .int .i64 n.minW, .int .i64 n.minH, .int .i64 n.maxW, .int .i64 n.maxH, .int .i64 n.grow, .int .i64 n.order, .bool n.column, .int .i64 n.columns, .int .i64 n.span, .int .i64 n.gap, .int .i64 n.offX, .int .i64 n.offY, .bool n.hidden, .slice n.wA n.wN n.wC, .slice n.kA n.kN n.kC]), v] w fun e w' => e = .returned (.tuple #[.nilIface, .int .i64 60]) ∧ Below w.heap.size w w' := by
  have hI := isKind_any n.kind (w.alloc (.cells (#[.int .u8 (n.kind : Nat), .string n.name, .string n.cls, .string n.text, .int .i64 n.minW, .int .i64 n.minH, .int .i64 n.maxW, .int .i64 n.maxH, .int .i64 n.grow, .int .i64 n.order, .bool n.column, .int .i64 n.columns, .int .i64 n.span, .int .i64 n.gap, .int .i64 n.offX, .int .i64 n.offY, .bool n.hidden, .slice n.wA n.wN n.wC, .slice n.kA n.kN n.kC]) 29))
  rw [hk] at hI
  have HA : Hid (Blk (w.alloc (.cells (#[.int .u8 (n.kind : Nat), .string n.name, .string n.cls, .string n.text, .int .i64 n.minW, .int .i64 n.minH, .int .i64 n.maxW, .int .i64 n.maxH, .int .i64 n.grow, .int .i64 n.order, .bool n.column, .int .i64 n.columns, .int .i64 n.span, .int .i64 n.gap, .int .i64 n.offX, .int .i64 n.offY, .bool n.hidden, .slice n.wA n.wN n.wC, .slice n.kA n.kN n.kC]) 29)) w.heap.size (#[.int .u8 (n.kind : Nat), .string n.name, .string n.cls, .string n.text, .int .i64 n.minW, .int .i64 n.minH, .int .i64 n.maxW, .int .i64 n.maxH, .int .i64 n.grow, .int .i64 n.order, .bool n.column, .int .i64 n.columns, .int .i64 n.span, .int .i64 n.gap, .int .i64 n.offX, .int .i64 n.offY, .bool n.hidden, .slice n.wA n.wN n.wC, .slice n.kA n.kN n.kC]) 29 ∧ Below w.heap.size w (w.alloc (.cells (#[.int .u8 (n.kind : Nat), .string n.name, .string n.cls, .string n.text, .int .i64 n.minW, .int .i64 n.minH, .int .i64 n.maxW, .int .i64 n.maxH, .int .i64 n.grow, .int .i64 n.order, .bool n.column, .int .i64 n.columns, .int .i64 n.span, .int .i64 n.gap, .int .i64 n.offX, .int .i64 n.offY, .bool n.hidden, .slice n.wA n.wN n.wC, .slice n.kA n.kN n.kC]) 29))) := ⟨Blk.new _ _ _, (Below.refl _ w).alloc (Nat.le_refl _) _⟩
  go_enter Tryz.func11, Tryz.ntmps11
  go_wp2_with fail
  refine hI.mono ?_
  rintro e w1 ⟨rfl, rfl⟩
  generalize (Value.agg #[.int .u8 (n.kind : Nat), .string n.name, .string n.cls, .string n.text, .int .i64 n.minW, .int .i64 n.minH, .int .i64 n.maxW, .int .i64 n.maxH, .int .i64 n.grow, .int .i64 n.order, .bool n.column, .int .i64 n.columns, .int .i64 n.span, .int .i64 n.gap, .int .i64 n.offX, .int .i64 n.offY, .bool n.hidden, .slice n.wA n.wN n.wC, .slice n.kA n.kN n.kC]) = nv at *
  go_wp2
  exact bodyPost_ret (v := .tuple #[.nilIface, .int .i64 60]) (by simp [results, Tryz.results11, go_sem]) rfl ⟨rfl, HA.out.2⟩

set_option maxHeartbeats 2000000 in
theorem make_arg (n : Nd) (v : Value) (w : World) (T : Tbs w) (hk : kindB n.kind = true) (ho : okN n = false) :
    Calls Tryz.prog 11 #[(Value.agg #[.int .u8 (n.kind : Nat), .string n.name, .string n.cls, .string n.text, .int .i64 n.minW, .int .i64 n.minH, .int .i64 n.maxW, .int .i64 n.maxH, .int .i64 n.grow, .int .i64 n.order, .bool n.column, .int .i64 n.columns, .int .i64 n.span, .int .i64 n.gap, .int .i64 n.offX, .int .i64 n.offY, .bool n.hidden, .slice n.wA n.wN n.wC, .slice n.kA n.kN n.kC]), v] w fun e w' => e = .returned (.tuple #[.nilIface, .int .i64 2]) ∧ Below w.heap.size w w' := by
  have hI := isKind_any n.kind (w.alloc (.cells (#[.int .u8 (n.kind : Nat), .string n.name, .string n.cls, .string n.text, .int .i64 n.minW, .int .i64 n.minH, .int .i64 n.maxW, .int .i64 n.maxH, .int .i64 n.grow, .int .i64 n.order, .bool n.column, .int .i64 n.columns, .int .i64 n.span, .int .i64 n.gap, .int .i64 n.offX, .int .i64 n.offY, .bool n.hidden, .slice n.wA n.wN n.wC, .slice n.kA n.kN n.kC]) 29))
  rw [hk] at hI
  have hN := nodeMay_any n (w.alloc (.cells (#[.int .u8 (n.kind : Nat), .string n.name, .string n.cls, .string n.text, .int .i64 n.minW, .int .i64 n.minH, .int .i64 n.maxW, .int .i64 n.maxH, .int .i64 n.grow, .int .i64 n.order, .bool n.column, .int .i64 n.columns, .int .i64 n.span, .int .i64 n.gap, .int .i64 n.offX, .int .i64 n.offY, .bool n.hidden, .slice n.wA n.wN n.wC, .slice n.kA n.kN n.kC]) 29)) (T.alloc _).2.2
  rw [ho] at hN
  have HA : Hid (Blk (w.alloc (.cells (#[.int .u8 (n.kind : Nat), .string n.name, .string n.cls, .string n.text, .int .i64 n.minW, .int .i64 n.minH, .int .i64 n.maxW, .int .i64 n.maxH, .int .i64 n.grow, .int .i64 n.order, .bool n.column, .int .i64 n.columns, .int .i64 n.span, .int .i64 n.gap, .int .i64 n.offX, .int .i64 n.offY, .bool n.hidden, .slice n.wA n.wN n.wC, .slice n.kA n.kN n.kC]) 29)) w.heap.size (#[.int .u8 (n.kind : Nat), .string n.name, .string n.cls, .string n.text, .int .i64 n.minW, .int .i64 n.minH, .int .i64 n.maxW, .int .i64 n.maxH, .int .i64 n.grow, .int .i64 n.order, .bool n.column, .int .i64 n.columns, .int .i64 n.span, .int .i64 n.gap, .int .i64 n.offX, .int .i64 n.offY, .bool n.hidden, .slice n.wA n.wN n.wC, .slice n.kA n.kN n.kC]) 29 ∧ Below w.heap.size w (w.alloc (.cells (#[.int .u8 (n.kind : Nat), .string n.name, .string n.cls, .string n.text, .int .i64 n.minW, .int .i64 n.minH, .int .i64 n.maxW, .int .i64 n.maxH, .int .i64 n.grow, .int .i64 n.order, .bool n.column, .int .i64 n.columns, .int .i64 n.span, .int .i64 n.gap, .int .i64 n.offX, .int .i64 n.offY, .bool n.hidden, .slice n.wA n.wN n.wC, .slice n.kA n.kN n.kC]) 29))) := ⟨Blk.new _ _ _, (Below.refl _ w).alloc (Nat.le_refl _) _⟩
  have hl := load_node HA.out.1
  clear T hk ho
  go_enter Tryz.func11, Tryz.ntmps11
  go_wp2_with fail
  refine hI.mono ?_
  rintro e w1 ⟨rfl, rfl⟩
  go_upto_region 3 with fail
  refine Go.wp_region_lit ?_
  refine wpList_load rfl _ _ rfl _ _ rfl hl ?_
  clear hl
  generalize (Value.agg #[.int .u8 (n.kind : Nat), .string n.name, .string n.cls, .string n.text, .int .i64 n.minW, .int .i64 n.minH, .int .i64 n.maxW, .int .i64 n.maxH, .int .i64 n.grow, .int .i64 n.order, .bool n.column, .int .i64 n.columns, .int .i64 n.span, .int .i64 n.gap, .int .i64 n.offX, .int .i64 n.offY, .bool n.hidden, .slice n.wA n.wN n.wC, .slice n.kA n.kN n.kC]) = nv at *
  go_wp2_with fail
  refine hN.mono ?_
  rintro e w1 ⟨rfl, hb⟩
  go_wp2
  exact bodyPost_ret (v := .tuple #[.nilIface, .int .i64 2]) (by simp [results, Tryz.results11, go_sem]) rfl ⟨rfl, HA.out.2.trans (hb.mono HA.out.2.size)⟩

set_option maxRecDepth 4000 in
set_option maxHeartbeats 2000000 in
theorem make_nil (n : Nd) (w : World) (T : Tbs w) (hk : kindB n.kind = true) (ho : okN n = true) :
    Calls Tryz.prog 11 #[(Value.agg #[.int .u8 (n.kind : Nat), .string n.name, .string n.cls, .string n.text, .int .i64 n.minW, .int .i64 n.minH, .int .i64 n.maxW, .int .i64 n.maxH, .int .i64 n.grow, .int .i64 n.order, .bool n.column, .int .i64 n.columns, .int .i64 n.span, .int .i64 n.gap, .int .i64 n.offX, .int .i64 n.offY, .bool n.hidden, .slice n.wA n.wN n.wC, .slice n.kA n.kN n.kC]), .slice none 0 0] w fun e w' => ∃ b, e = .returned (.tuple #[.iface (tyOf n.kind).id (.pointer (some ⟨b, 0, none⟩)), .int .i64 0]) ∧ PtIn w' b (ptOf n none 0 0) ∧ w.heap.size ≤ b ∧ Below w.heap.size w w' := by
  have hI := isKind_any n.kind (w.alloc (.cells (#[.int .u8 (n.kind : Nat), .string n.name, .string n.cls, .string n.text, .int .i64 n.minW, .int .i64 n.minH, .int .i64 n.maxW, .int .i64 n.maxH, .int .i64 n.grow, .int .i64 n.order, .bool n.column, .int .i64 n.columns, .int .i64 n.span, .int .i64 n.gap, .int .i64 n.offX, .int .i64 n.offY, .bool n.hidden, .slice n.wA n.wN n.wC, .slice n.kA n.kN n.kC]) 29))
  rw [hk] at hI
  have hN := nodeMay_any n (w.alloc (.cells (#[.int .u8 (n.kind : Nat), .string n.name, .string n.cls, .string n.text, .int .i64 n.minW, .int .i64 n.minH, .int .i64 n.maxW, .int .i64 n.maxH, .int .i64 n.grow, .int .i64 n.order, .bool n.column, .int .i64 n.columns, .int .i64 n.span, .int .i64 n.gap, .int .i64 n.offX, .int .i64 n.offY, .bool n.hidden, .slice n.wA n.wN n.wC, .slice n.kA n.kN n.kC]) 29)) (T.alloc _).2.2
  rw [ho] at hN
  have hB : Hid (∀ W, Tbs W → Calls Tryz.prog 40 #[(Value.agg #[.int .u8 (n.kind : Nat), .string n.name, .string n.cls, .string n.text, .int .i64 n.minW, .int .i64 n.minH, .int .i64 n.maxW, .int .i64 n.maxH, .int .i64 n.grow, .int .i64 n.order, .bool n.column, .int .i64 n.columns, .int .i64 n.span, .int .i64 n.gap, .int .i64 n.offX, .int .i64 n.offY, .bool n.hidden, .slice n.wA n.wN n.wC, .slice n.kA n.kN n.kC]), .slice none 0 0] W fun e w' => ∃ b, e = .returned (.iface (tyOf n.kind).id (.pointer (some ⟨b, 0, none⟩))) ∧ PtIn w' b (ptOf n none 0 0) ∧ W.heap.size ≤ b ∧ Below W.heap.size W w') := fun W h => built_nil n W h hk (by have := (okN_text ho).1; omega)
  have hP : Hid (∀ W, Calls Tryz.prog 39 #[.int .u8 (n.kind : Nat)] W fun e w' => e = .returned (.int .i64 (mostP n.kind)) ∧ w' = W) := fun W => mostParts_any n.kind W
  have hp : ¬ mostP n.kind < 0 := by unfold mostP; split <;> (try split) <;> omega
  generalize mostP n.kind = mp at *
  have HA : Hid (Blk (w.alloc (.cells (#[.int .u8 (n.kind : Nat), .string n.name, .string n.cls, .string n.text, .int .i64 n.minW, .int .i64 n.minH, .int .i64 n.maxW, .int .i64 n.maxH, .int .i64 n.grow, .int .i64 n.order, .bool n.column, .int .i64 n.columns, .int .i64 n.span, .int .i64 n.gap, .int .i64 n.offX, .int .i64 n.offY, .bool n.hidden, .slice n.wA n.wN n.wC, .slice n.kA n.kN n.kC]) 29)) w.heap.size (#[.int .u8 (n.kind : Nat), .string n.name, .string n.cls, .string n.text, .int .i64 n.minW, .int .i64 n.minH, .int .i64 n.maxW, .int .i64 n.maxH, .int .i64 n.grow, .int .i64 n.order, .bool n.column, .int .i64 n.columns, .int .i64 n.span, .int .i64 n.gap, .int .i64 n.offX, .int .i64 n.offY, .bool n.hidden, .slice n.wA n.wN n.wC, .slice n.kA n.kN n.kC]) 29 ∧ Below w.heap.size w (w.alloc (.cells (#[.int .u8 (n.kind : Nat), .string n.name, .string n.cls, .string n.text, .int .i64 n.minW, .int .i64 n.minH, .int .i64 n.maxW, .int .i64 n.maxH, .int .i64 n.grow, .int .i64 n.order, .bool n.column, .int .i64 n.columns, .int .i64 n.span, .int .i64 n.gap, .int .i64 n.offX, .int .i64 n.offY, .bool n.hidden, .slice n.wA n.wN n.wC, .slice n.kA n.kN n.kC]) 29))) := ⟨Blk.new _ _ _, (Below.refl _ w).alloc (Nat.le_refl _) _⟩
  have hl := load_node HA.out.1
  have HV : Hid (∀ {W : World} {b : Nat} {t : TypeId}, Blk W b (#[.int .u8 (n.kind : Nat), .string n.name, .string n.cls, .string n.text, .int .i64 n.minW, .int .i64 n.minH, .int .i64 n.maxW, .int .i64 n.maxH, .int .i64 n.grow, .int .i64 n.order, .bool n.column, .int .i64 n.columns, .int .i64 n.span, .int .i64 n.gap, .int .i64 n.offX, .int .i64 n.offY, .bool n.hidden, .slice n.wA n.wN n.wC, .slice n.kA n.kN n.kC]) t → (Instr.loadAt 29 (.pointer (some ⟨b, 0, none⟩))).run Tryz.prog W = .ok (Value.agg #[.int .u8 (n.kind : Nat), .string n.name, .string n.cls, .string n.text, .int .i64 n.minW, .int .i64 n.minH, .int .i64 n.maxW, .int .i64 n.maxH, .int .i64 n.grow, .int .i64 n.order, .bool n.column, .int .i64 n.columns, .int .i64 n.span, .int .i64 n.gap, .int .i64 n.offX, .int .i64 n.offY, .bool n.hidden, .slice n.wA n.wN n.wC, .slice n.kA n.kN n.kC]) W) := load_node
  have HT : Hid (Tbs w) := T
  clear T hk ho
  go_enter Tryz.func11, Tryz.ntmps11
  go_wp2_with fail
  refine hI.mono ?_
  rintro e w1 ⟨rfl, rfl⟩
  go_upto_region 3 with fail
  refine Go.wp_region_lit ?_
  refine wpList_load rfl _ _ rfl _ _ rfl hl ?_
  clear hl hI
  generalize (Value.agg #[.int .u8 (n.kind : Nat), .string n.name, .string n.cls, .string n.text, .int .i64 n.minW, .int .i64 n.minH, .int .i64 n.maxW, .int .i64 n.maxH, .int .i64 n.grow, .int .i64 n.order, .bool n.column, .int .i64 n.columns, .int .i64 n.span, .int .i64 n.gap, .int .i64 n.offX, .int .i64 n.offY, .bool n.hidden, .slice n.wA n.wN n.wC, .slice n.kA n.kN n.kC]) = nv at *
  go_wp2_with fail
  refine hN.mono ?_
  rintro e w1 ⟨rfl, hb⟩
  have A1 : Hid (Blk w1 w.heap.size (#[.int .u8 (n.kind : Nat), .string n.name, .string n.cls, .string n.text, .int .i64 n.minW, .int .i64 n.minH, .int .i64 n.maxW, .int .i64 n.maxH, .int .i64 n.grow, .int .i64 n.order, .bool n.column, .int .i64 n.columns, .int .i64 n.span, .int .i64 n.gap, .int .i64 n.offX, .int .i64 n.offY, .bool n.hidden, .slice n.wA n.wN n.wC, .slice n.kA n.kN n.kC]) 29 ∧ Below w.heap.size w w1) := ⟨HA.out.1.below hb, HA.out.2.trans (hb.mono HA.out.2.size)⟩
  clear hb hN HA
  have c0 : w1.cell? ⟨w.heap.size, 0, none⟩ = some (.int .u8 (n.kind : Nat)) := A1.out.1.cell 0
  go_wp2_with fail
  refine (hP.out _).mono ?_
  rintro e w2 ⟨rfl, rfl⟩
  go_upto_region 9 with fail
  have hl := HV.out A1.out.1
  refine Go.wp_region_lit ?_
  refine wpList_load rfl _ _ rfl _ _ rfl hl ?_
  clear hl c0
  go_wp2_with fail
  refine (hB.out _ (HT.out.below A1.out.2)).mono ?_
  rintro e w3 ⟨b, rfl, hpt, hle, hb⟩
  go_wp2
  exact bodyPost_ret (v := .tuple #[.iface (tyOf n.kind).id (.pointer (some ⟨b, 0, none⟩)), .int .i64 0]) (by simp [results, Tryz.results11, go_sem]) rfl ⟨b, rfl, hpt, Nat.le_trans A1.out.2.size hle, A1.out.2.trans (hb.mono A1.out.2.size)⟩

/-- A node of a kind, with a text. -/
def ndT (k : Nat) (s : ByteArray) : Nd := ⟨k, ⟨#[]⟩, ⟨#[]⟩, s, 0, 0, 0, 0, 0, 0, false, 0, 0, 0, 0, 0, false, none, 0, 0, none, 0, 0⟩
set_option maxHeartbeats 1000000 in
theorem madeT_any (k : Nat) (s : ByteArray) (w : World) (T : Tbs w) (hk : kindB k = true) (ho : okN (ndT k s) = true) :
    Calls Tryz.prog 36 #[.int .u8 (k : Nat), .string s] w fun e w' => ∃ b, e = .returned (.iface (tyOf k).id (.pointer (some ⟨b, 0, none⟩))) ∧ PtIn w' b (ptOf (ndT k s) none 0 0) ∧ w.heap.size ≤ b ∧ Below w.heap.size w w' := by
  have hM := make_nil (ndT k s) w T hk ho
  clear T hk ho
  simp only [ndT] at hM
  go_enter Tryz.func36, Tryz.ntmps36
  go_wp2_with fail
  refine hM.mono ?_
  rintro e w1 ⟨b, rfl, hpt, hle, hb⟩
  go_wp2
  go_ret
  exact ⟨b, rfl, hpt, hle, hb⟩

end Go.Proofs.YtdbafcldpleogaaGreatDoor
