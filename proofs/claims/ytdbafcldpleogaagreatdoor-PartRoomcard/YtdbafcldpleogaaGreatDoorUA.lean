/-
  What holds under assertions on parts; abilities, Can, holds.
-/
import Derived.Test.YtdbafcldpleogaaGreatDoorUP
import Derived.Test.YtdbafcldpleogaaGreatDoorW1
import Derived.Stop.Asserts
import Derived.Defers
import Derived.Recover
namespace Go.Proofs.YtdbafcldpleogaaGreatDoor
open Go.RowKit

theorem as_label_1 (v : Value) (w : World) : (Instr.typeAssert (.iface 156 v) 38 95 true).run Tryz.prog w = .ok (.tuple #[.iface 156 v, .bool true]) w := run_typeAssert_hasB Tryz.underlying95 (by kernel_rfl) v _ w
theorem as_label_2 (v : Value) (w : World) : (Instr.typeAssert (.iface 156 v) 38 98 true).run Tryz.prog w = .ok (.tuple #[.iface 156 v, .bool true]) w := run_typeAssert_hasB Tryz.underlying98 (by kernel_rfl) v _ w
theorem as_label_4 (v : Value) (w : World) : (Instr.typeAssert (.iface 156 v) 38 101 true).run Tryz.prog w = .ok (.tuple #[.nilIface, .bool false]) w := run_typeAssert_lacksB Tryz.underlying101 (by kernel_rfl) (by kernel_rfl) v _ w
theorem as_label_8 (v : Value) (w : World) : (Instr.typeAssert (.iface 156 v) 38 104 true).run Tryz.prog w = .ok (.tuple #[.nilIface, .bool false]) w := run_typeAssert_lacksB Tryz.underlying104 (by kernel_rfl) (by kernel_rfl) v _ w
theorem as_label_16 (v : Value) (w : World) : (Instr.typeAssert (.iface 156 v) 38 107 true).run Tryz.prog w = .ok (.tuple #[.nilIface, .bool false]) w := run_typeAssert_lacksB Tryz.underlying107 (by kernel_rfl) (by kernel_rfl) v _ w
theorem as_label_32 (v : Value) (w : World) : (Instr.typeAssert (.iface 156 v) 38 110 true).run Tryz.prog w = .ok (.tuple #[.nilIface, .bool false]) w := run_typeAssert_lacksB Tryz.underlying110 (by kernel_rfl) (by kernel_rfl) v _ w
theorem as_button_1 (v : Value) (w : World) : (Instr.typeAssert (.iface 159 v) 38 95 true).run Tryz.prog w = .ok (.tuple #[.iface 159 v, .bool true]) w := run_typeAssert_hasB Tryz.underlying95 (by kernel_rfl) v _ w
theorem as_button_2 (v : Value) (w : World) : (Instr.typeAssert (.iface 159 v) 38 98 true).run Tryz.prog w = .ok (.tuple #[.iface 159 v, .bool true]) w := run_typeAssert_hasB Tryz.underlying98 (by kernel_rfl) v _ w
theorem as_button_4 (v : Value) (w : World) : (Instr.typeAssert (.iface 159 v) 38 101 true).run Tryz.prog w = .ok (.tuple #[.iface 159 v, .bool true]) w := run_typeAssert_hasB Tryz.underlying101 (by kernel_rfl) v _ w
theorem as_button_8 (v : Value) (w : World) : (Instr.typeAssert (.iface 159 v) 38 104 true).run Tryz.prog w = .ok (.tuple #[.nilIface, .bool false]) w := run_typeAssert_lacksB Tryz.underlying104 (by kernel_rfl) (by kernel_rfl) v _ w
theorem as_button_16 (v : Value) (w : World) : (Instr.typeAssert (.iface 159 v) 38 107 true).run Tryz.prog w = .ok (.tuple #[.nilIface, .bool false]) w := run_typeAssert_lacksB Tryz.underlying107 (by kernel_rfl) (by kernel_rfl) v _ w
theorem as_button_32 (v : Value) (w : World) : (Instr.typeAssert (.iface 159 v) 38 110 true).run Tryz.prog w = .ok (.tuple #[.nilIface, .bool false]) w := run_typeAssert_lacksB Tryz.underlying110 (by kernel_rfl) (by kernel_rfl) v _ w
theorem as_field_1 (v : Value) (w : World) : (Instr.typeAssert (.iface 162 v) 38 95 true).run Tryz.prog w = .ok (.tuple #[.iface 162 v, .bool true]) w := run_typeAssert_hasB Tryz.underlying95 (by kernel_rfl) v _ w
theorem as_field_2 (v : Value) (w : World) : (Instr.typeAssert (.iface 162 v) 38 98 true).run Tryz.prog w = .ok (.tuple #[.iface 162 v, .bool true]) w := run_typeAssert_hasB Tryz.underlying98 (by kernel_rfl) v _ w
theorem as_field_4 (v : Value) (w : World) : (Instr.typeAssert (.iface 162 v) 38 101 true).run Tryz.prog w = .ok (.tuple #[.iface 162 v, .bool true]) w := run_typeAssert_hasB Tryz.underlying101 (by kernel_rfl) v _ w
theorem as_field_8 (v : Value) (w : World) : (Instr.typeAssert (.iface 162 v) 38 104 true).run Tryz.prog w = .ok (.tuple #[.nilIface, .bool false]) w := run_typeAssert_lacksB Tryz.underlying104 (by kernel_rfl) (by kernel_rfl) v _ w
theorem as_field_16 (v : Value) (w : World) : (Instr.typeAssert (.iface 162 v) 38 107 true).run Tryz.prog w = .ok (.tuple #[.iface 162 v, .bool true]) w := run_typeAssert_hasB Tryz.underlying107 (by kernel_rfl) v _ w
theorem as_field_32 (v : Value) (w : World) : (Instr.typeAssert (.iface 162 v) 38 110 true).run Tryz.prog w = .ok (.tuple #[.nilIface, .bool false]) w := run_typeAssert_lacksB Tryz.underlying110 (by kernel_rfl) (by kernel_rfl) v _ w
theorem as_box_1 (v : Value) (w : World) : (Instr.typeAssert (.iface 167 v) 38 95 true).run Tryz.prog w = .ok (.tuple #[.iface 167 v, .bool true]) w := run_typeAssert_hasB Tryz.underlying95 (by kernel_rfl) v _ w
theorem as_box_2 (v : Value) (w : World) : (Instr.typeAssert (.iface 167 v) 38 98 true).run Tryz.prog w = .ok (.tuple #[.nilIface, .bool false]) w := run_typeAssert_lacksB Tryz.underlying98 (by kernel_rfl) (by kernel_rfl) v _ w
theorem as_box_4 (v : Value) (w : World) : (Instr.typeAssert (.iface 167 v) 38 101 true).run Tryz.prog w = .ok (.tuple #[.nilIface, .bool false]) w := run_typeAssert_lacksB Tryz.underlying101 (by kernel_rfl) (by kernel_rfl) v _ w
theorem as_box_8 (v : Value) (w : World) : (Instr.typeAssert (.iface 167 v) 38 104 true).run Tryz.prog w = .ok (.tuple #[.nilIface, .bool false]) w := run_typeAssert_lacksB Tryz.underlying104 (by kernel_rfl) (by kernel_rfl) v _ w
theorem as_box_16 (v : Value) (w : World) : (Instr.typeAssert (.iface 167 v) 38 107 true).run Tryz.prog w = .ok (.tuple #[.nilIface, .bool false]) w := run_typeAssert_lacksB Tryz.underlying107 (by kernel_rfl) (by kernel_rfl) v _ w
theorem as_box_32 (v : Value) (w : World) : (Instr.typeAssert (.iface 167 v) 38 110 true).run Tryz.prog w = .ok (.tuple #[.iface 167 v, .bool true]) w := run_typeAssert_hasB Tryz.underlying110 (by kernel_rfl) v _ w
theorem as_scroll_1 (v : Value) (w : World) : (Instr.typeAssert (.iface 172 v) 38 95 true).run Tryz.prog w = .ok (.tuple #[.iface 172 v, .bool true]) w := run_typeAssert_hasB Tryz.underlying95 (by kernel_rfl) v _ w
theorem as_scroll_2 (v : Value) (w : World) : (Instr.typeAssert (.iface 172 v) 38 98 true).run Tryz.prog w = .ok (.tuple #[.iface 172 v, .bool true]) w := run_typeAssert_hasB Tryz.underlying98 (by kernel_rfl) v _ w
theorem as_scroll_4 (v : Value) (w : World) : (Instr.typeAssert (.iface 172 v) 38 101 true).run Tryz.prog w = .ok (.tuple #[.iface 172 v, .bool true]) w := run_typeAssert_hasB Tryz.underlying101 (by kernel_rfl) v _ w
theorem as_scroll_8 (v : Value) (w : World) : (Instr.typeAssert (.iface 172 v) 38 104 true).run Tryz.prog w = .ok (.tuple #[.iface 172 v, .bool true]) w := run_typeAssert_hasB Tryz.underlying104 (by kernel_rfl) v _ w
theorem as_scroll_16 (v : Value) (w : World) : (Instr.typeAssert (.iface 172 v) 38 107 true).run Tryz.prog w = .ok (.tuple #[.nilIface, .bool false]) w := run_typeAssert_lacksB Tryz.underlying107 (by kernel_rfl) (by kernel_rfl) v _ w
theorem as_scroll_32 (v : Value) (w : World) : (Instr.typeAssert (.iface 172 v) 38 110 true).run Tryz.prog w = .ok (.tuple #[.iface 172 v, .bool true]) w := run_typeAssert_hasB Tryz.underlying110 (by kernel_rfl) v _ w
theorem as_canvas_1 (v : Value) (w : World) : (Instr.typeAssert (.iface 177 v) 38 95 true).run Tryz.prog w = .ok (.tuple #[.nilIface, .bool false]) w := run_typeAssert_lacksB Tryz.underlying95 (by kernel_rfl) (by kernel_rfl) v _ w
theorem as_canvas_2 (v : Value) (w : World) : (Instr.typeAssert (.iface 177 v) 38 98 true).run Tryz.prog w = .ok (.tuple #[.iface 177 v, .bool true]) w := run_typeAssert_hasB Tryz.underlying98 (by kernel_rfl) v _ w
theorem as_canvas_4 (v : Value) (w : World) : (Instr.typeAssert (.iface 177 v) 38 101 true).run Tryz.prog w = .ok (.tuple #[.nilIface, .bool false]) w := run_typeAssert_lacksB Tryz.underlying101 (by kernel_rfl) (by kernel_rfl) v _ w
theorem as_canvas_8 (v : Value) (w : World) : (Instr.typeAssert (.iface 177 v) 38 104 true).run Tryz.prog w = .ok (.tuple #[.nilIface, .bool false]) w := run_typeAssert_lacksB Tryz.underlying104 (by kernel_rfl) (by kernel_rfl) v _ w
theorem as_canvas_16 (v : Value) (w : World) : (Instr.typeAssert (.iface 177 v) 38 107 true).run Tryz.prog w = .ok (.tuple #[.nilIface, .bool false]) w := run_typeAssert_lacksB Tryz.underlying107 (by kernel_rfl) (by kernel_rfl) v _ w
theorem as_canvas_32 (v : Value) (w : World) : (Instr.typeAssert (.iface 177 v) 38 110 true).run Tryz.prog w = .ok (.tuple #[.nilIface, .bool false]) w := run_typeAssert_lacksB Tryz.underlying110 (by kernel_rfl) (by kernel_rfl) v _ w
theorem as_gap_1 (v : Value) (w : World) : (Instr.typeAssert (.iface 180 v) 38 95 true).run Tryz.prog w = .ok (.tuple #[.iface 180 v, .bool true]) w := run_typeAssert_hasB Tryz.underlying95 (by kernel_rfl) v _ w
theorem as_gap_2 (v : Value) (w : World) : (Instr.typeAssert (.iface 180 v) 38 98 true).run Tryz.prog w = .ok (.tuple #[.nilIface, .bool false]) w := run_typeAssert_lacksB Tryz.underlying98 (by kernel_rfl) (by kernel_rfl) v _ w
theorem as_gap_4 (v : Value) (w : World) : (Instr.typeAssert (.iface 180 v) 38 101 true).run Tryz.prog w = .ok (.tuple #[.nilIface, .bool false]) w := run_typeAssert_lacksB Tryz.underlying101 (by kernel_rfl) (by kernel_rfl) v _ w
theorem as_gap_8 (v : Value) (w : World) : (Instr.typeAssert (.iface 180 v) 38 104 true).run Tryz.prog w = .ok (.tuple #[.nilIface, .bool false]) w := run_typeAssert_lacksB Tryz.underlying104 (by kernel_rfl) (by kernel_rfl) v _ w
theorem as_gap_16 (v : Value) (w : World) : (Instr.typeAssert (.iface 180 v) 38 107 true).run Tryz.prog w = .ok (.tuple #[.nilIface, .bool false]) w := run_typeAssert_lacksB Tryz.underlying107 (by kernel_rfl) (by kernel_rfl) v _ w
theorem as_gap_32 (v : Value) (w : World) : (Instr.typeAssert (.iface 180 v) 38 110 true).run Tryz.prog w = .ok (.tuple #[.nilIface, .bool false]) w := run_typeAssert_lacksB Tryz.underlying110 (by kernel_rfl) (by kernel_rfl) v _ w
theorem as_nil_1 (w : World) : (Instr.typeAssert .nilIface 38 95 true).run Tryz.prog w = .ok (.tuple #[.nilIface, .bool false]) w := by kernel_rfl
theorem as_nil_2 (w : World) : (Instr.typeAssert .nilIface 38 98 true).run Tryz.prog w = .ok (.tuple #[.nilIface, .bool false]) w := by kernel_rfl
theorem as_nil_4 (w : World) : (Instr.typeAssert .nilIface 38 101 true).run Tryz.prog w = .ok (.tuple #[.nilIface, .bool false]) w := by kernel_rfl
theorem as_nil_8 (w : World) : (Instr.typeAssert .nilIface 38 104 true).run Tryz.prog w = .ok (.tuple #[.nilIface, .bool false]) w := by kernel_rfl
theorem as_nil_16 (w : World) : (Instr.typeAssert .nilIface 38 107 true).run Tryz.prog w = .ok (.tuple #[.nilIface, .bool false]) w := by kernel_rfl
theorem as_nil_32 (w : World) : (Instr.typeAssert .nilIface 38 110 true).run Tryz.prog w = .ok (.tuple #[.nilIface, .bool false]) w := by kernel_rfl

set_option maxHeartbeats 2000000 in
theorem abil_ty (t : Ty) (v : Value) (w : World) :
    Calls Tryz.prog 43 #[.iface t.id v] w fun e w' => e = .returned (.int .u16 (t.can : Nat)) ∧ w' = w := by
  cases t
  · simp only [Ty.id, Ty.can]
    have a1 := as_label_1
    have a2 := as_label_2
    have a3 := as_label_4
    have a4 := as_label_8
    have a5 := as_label_16
    have a6 := as_label_32
    go_enter Tryz.func43, Tryz.ntmps43
    go_wp2
    go_ret
    exact ⟨rfl, rfl⟩
  · simp only [Ty.id, Ty.can]
    have a1 := as_button_1
    have a2 := as_button_2
    have a3 := as_button_4
    have a4 := as_button_8
    have a5 := as_button_16
    have a6 := as_button_32
    go_enter Tryz.func43, Tryz.ntmps43
    go_wp2
    go_ret
    exact ⟨rfl, rfl⟩
  · simp only [Ty.id, Ty.can]
    have a1 := as_field_1
    have a2 := as_field_2
    have a3 := as_field_4
    have a4 := as_field_8
    have a5 := as_field_16
    have a6 := as_field_32
    go_enter Tryz.func43, Tryz.ntmps43
    go_wp2
    go_ret
    exact ⟨rfl, rfl⟩
  · simp only [Ty.id, Ty.can]
    have a1 := as_box_1
    have a2 := as_box_2
    have a3 := as_box_4
    have a4 := as_box_8
    have a5 := as_box_16
    have a6 := as_box_32
    go_enter Tryz.func43, Tryz.ntmps43
    go_wp2
    go_ret
    exact ⟨rfl, rfl⟩
  · simp only [Ty.id, Ty.can]
    have a1 := as_scroll_1
    have a2 := as_scroll_2
    have a3 := as_scroll_4
    have a4 := as_scroll_8
    have a5 := as_scroll_16
    have a6 := as_scroll_32
    go_enter Tryz.func43, Tryz.ntmps43
    go_wp2
    go_ret
    exact ⟨rfl, rfl⟩
  · simp only [Ty.id, Ty.can]
    have a1 := as_canvas_1
    have a2 := as_canvas_2
    have a3 := as_canvas_4
    have a4 := as_canvas_8
    have a5 := as_canvas_16
    have a6 := as_canvas_32
    go_enter Tryz.func43, Tryz.ntmps43
    go_wp2
    go_ret
    exact ⟨rfl, rfl⟩
  · simp only [Ty.id, Ty.can]
    have a1 := as_gap_1
    have a2 := as_gap_2
    have a3 := as_gap_4
    have a4 := as_gap_8
    have a5 := as_gap_16
    have a6 := as_gap_32
    go_enter Tryz.func43, Tryz.ntmps43
    go_wp2
    go_ret
    exact ⟨rfl, rfl⟩

theorem abil_nil (w : World) :
    Calls Tryz.prog 43 #[.nilIface] w fun e w' => e = .returned (.int .u16 0) ∧ w' = w := by
  have a1 := as_nil_1
  have a2 := as_nil_2
  have a3 := as_nil_4
  have a4 := as_nil_8
  have a5 := as_nil_16
  have a6 := as_nil_32
  go_enter Tryz.func43, Tryz.ntmps43
  go_wp2
  go_ret
  exact ⟨rfl, rfl⟩

set_option maxHeartbeats 2000000 in
theorem holds_ty (t : Ty) (v : Value) (w : World) :
    Calls Tryz.prog 16 #[.iface t.id v] w fun e w' => e = .returned (.int .u16 (t.can : Nat)) ∧ w' = w := by
  cases t
  · simp only [Ty.id, Ty.can]
    have a1 := as_label_1
    have a2 := as_label_2
    have a3 := as_label_4
    have a4 := as_label_8
    have a5 := as_label_16
    have a6 := as_label_32
    go_enter Tryz.func16, Tryz.ntmps16
    go_wp2
    go_ret
    exact ⟨rfl, rfl⟩
  · simp only [Ty.id, Ty.can]
    have a1 := as_button_1
    have a2 := as_button_2
    have a3 := as_button_4
    have a4 := as_button_8
    have a5 := as_button_16
    have a6 := as_button_32
    go_enter Tryz.func16, Tryz.ntmps16
    go_wp2
    go_ret
    exact ⟨rfl, rfl⟩
  · simp only [Ty.id, Ty.can]
    have a1 := as_field_1
    have a2 := as_field_2
    have a3 := as_field_4
    have a4 := as_field_8
    have a5 := as_field_16
    have a6 := as_field_32
    go_enter Tryz.func16, Tryz.ntmps16
    go_wp2
    go_ret
    exact ⟨rfl, rfl⟩
  · simp only [Ty.id, Ty.can]
    have a1 := as_box_1
    have a2 := as_box_2
    have a3 := as_box_4
    have a4 := as_box_8
    have a5 := as_box_16
    have a6 := as_box_32
    go_enter Tryz.func16, Tryz.ntmps16
    go_wp2
    go_ret
    exact ⟨rfl, rfl⟩
  · simp only [Ty.id, Ty.can]
    have a1 := as_scroll_1
    have a2 := as_scroll_2
    have a3 := as_scroll_4
    have a4 := as_scroll_8
    have a5 := as_scroll_16
    have a6 := as_scroll_32
    go_enter Tryz.func16, Tryz.ntmps16
    go_wp2
    go_ret
    exact ⟨rfl, rfl⟩
  · simp only [Ty.id, Ty.can]
    have a1 := as_canvas_1
    have a2 := as_canvas_2
    have a3 := as_canvas_4
    have a4 := as_canvas_8
    have a5 := as_canvas_16
    have a6 := as_canvas_32
    go_enter Tryz.func16, Tryz.ntmps16
    go_wp2
    go_ret
    exact ⟨rfl, rfl⟩
  · simp only [Ty.id, Ty.can]
    have a1 := as_gap_1
    have a2 := as_gap_2
    have a3 := as_gap_4
    have a4 := as_gap_8
    have a5 := as_gap_16
    have a6 := as_gap_32
    go_enter Tryz.func16, Tryz.ntmps16
    go_wp2
    go_ret
    exact ⟨rfl, rfl⟩

theorem holds_nil (w : World) :
    Calls Tryz.prog 16 #[.nilIface] w fun e w' => e = .returned (.int .u16 0) ∧ w' = w := by
  have a1 := as_nil_1
  have a2 := as_nil_2
  have a3 := as_nil_4
  have a4 := as_nil_8
  have a5 := as_nil_16
  have a6 := as_nil_32
  go_enter Tryz.func16, Tryz.ntmps16
  go_wp2
  go_ret
  exact ⟨rfl, rfl⟩

theorem can_ty_any (t : Ty) (v : Value) (w : World) :
    Calls Tryz.prog 17 #[.iface t.id v] w fun e w' => e = .returned (.int .u16 (t.can : Nat)) ∧ w' = w := by
  have h := fun w => abil_ty t v w
  go_enter Tryz.func17, Tryz.ntmps17
  go_wp2_with fail
  refine (h _).mono ?_
  rintro e w1 ⟨rfl, rfl⟩
  go_wp2
  go_ret
  exact ⟨rfl, rfl⟩

theorem can_nil_any (w : World) :
    Calls Tryz.prog 17 #[.nilIface] w fun e w' => e = .returned (.int .u16 0) ∧ w' = w := by
  have h := fun w => abil_nil w
  go_enter Tryz.func17, Tryz.ntmps17
  go_wp2_with fail
  refine (h _).mono ?_
  rintro e w1 ⟨rfl, rfl⟩
  go_wp2
  go_ret
  exact ⟨rfl, rfl⟩

end Go.Proofs.YtdbafcldpleogaaGreatDoor
