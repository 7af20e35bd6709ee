/-
  What holds under assertions on parts; abilities, Can, holds.
-/
import Derived.Test.YtbnbfgkcndomaabGreatDoorUP
import Derived.Test.YtbnbfgkcndomaabGreatDoorW1
import Derived.Stop.Asserts
import Derived.Defers
import Derived.Recover
namespace Go.Proofs.YtbnbfgkcndomaabGreatDoor
open Go.RowKit

theorem as_label_1 (v : Value) (w : World) : (Instr.typeAssert (.iface 183 v) 44 129 true).run Tryz.prog w = .ok (.tuple #[.iface 183 v, .bool true]) w := run_typeAssert_hasB Tryz.underlying129 (by kernel_rfl) v _ w
theorem as_label_2 (v : Value) (w : World) : (Instr.typeAssert (.iface 183 v) 44 132 true).run Tryz.prog w = .ok (.tuple #[.iface 183 v, .bool true]) w := run_typeAssert_hasB Tryz.underlying132 (by kernel_rfl) v _ w
theorem as_label_4 (v : Value) (w : World) : (Instr.typeAssert (.iface 183 v) 44 135 true).run Tryz.prog w = .ok (.tuple #[.nilIface, .bool false]) w := run_typeAssert_lacksB Tryz.underlying135 (by kernel_rfl) (by kernel_rfl) v _ w
theorem as_label_8 (v : Value) (w : World) : (Instr.typeAssert (.iface 183 v) 44 138 true).run Tryz.prog w = .ok (.tuple #[.nilIface, .bool false]) w := run_typeAssert_lacksB Tryz.underlying138 (by kernel_rfl) (by kernel_rfl) v _ w
theorem as_label_16 (v : Value) (w : World) : (Instr.typeAssert (.iface 183 v) 44 141 true).run Tryz.prog w = .ok (.tuple #[.nilIface, .bool false]) w := run_typeAssert_lacksB Tryz.underlying141 (by kernel_rfl) (by kernel_rfl) v _ w
theorem as_label_32 (v : Value) (w : World) : (Instr.typeAssert (.iface 183 v) 44 144 true).run Tryz.prog w = .ok (.tuple #[.nilIface, .bool false]) w := run_typeAssert_lacksB Tryz.underlying144 (by kernel_rfl) (by kernel_rfl) v _ w
theorem as_button_1 (v : Value) (w : World) : (Instr.typeAssert (.iface 184 v) 44 129 true).run Tryz.prog w = .ok (.tuple #[.iface 184 v, .bool true]) w := run_typeAssert_hasB Tryz.underlying129 (by kernel_rfl) v _ w
theorem as_button_2 (v : Value) (w : World) : (Instr.typeAssert (.iface 184 v) 44 132 true).run Tryz.prog w = .ok (.tuple #[.iface 184 v, .bool true]) w := run_typeAssert_hasB Tryz.underlying132 (by kernel_rfl) v _ w
theorem as_button_4 (v : Value) (w : World) : (Instr.typeAssert (.iface 184 v) 44 135 true).run Tryz.prog w = .ok (.tuple #[.iface 184 v, .bool true]) w := run_typeAssert_hasB Tryz.underlying135 (by kernel_rfl) v _ w
theorem as_button_8 (v : Value) (w : World) : (Instr.typeAssert (.iface 184 v) 44 138 true).run Tryz.prog w = .ok (.tuple #[.nilIface, .bool false]) w := run_typeAssert_lacksB Tryz.underlying138 (by kernel_rfl) (by kernel_rfl) v _ w
theorem as_button_16 (v : Value) (w : World) : (Instr.typeAssert (.iface 184 v) 44 141 true).run Tryz.prog w = .ok (.tuple #[.nilIface, .bool false]) w := run_typeAssert_lacksB Tryz.underlying141 (by kernel_rfl) (by kernel_rfl) v _ w
theorem as_button_32 (v : Value) (w : World) : (Instr.typeAssert (.iface 184 v) 44 144 true).run Tryz.prog w = .ok (.tuple #[.nilIface, .bool false]) w := run_typeAssert_lacksB Tryz.underlying144 (by kernel_rfl) (by kernel_rfl) v _ w
theorem as_field_1 (v : Value) (w : World) : (Instr.typeAssert (.iface 185 v) 44 129 true).run Tryz.prog w = .ok (.tuple #[.iface 185 v, .bool true]) w := run_typeAssert_hasB Tryz.underlying129 (by kernel_rfl) v _ w
theorem as_field_2 (v : Value) (w : World) : (Instr.typeAssert (.iface 185 v) 44 132 true).run Tryz.prog w = .ok (.tuple #[.iface 185 v, .bool true]) w := run_typeAssert_hasB Tryz.underlying132 (by kernel_rfl) v _ w
theorem as_field_4 (v : Value) (w : World) : (Instr.typeAssert (.iface 185 v) 44 135 true).run Tryz.prog w = .ok (.tuple #[.iface 185 v, .bool true]) w := run_typeAssert_hasB Tryz.underlying135 (by kernel_rfl) v _ w
theorem as_field_8 (v : Value) (w : World) : (Instr.typeAssert (.iface 185 v) 44 138 true).run Tryz.prog w = .ok (.tuple #[.nilIface, .bool false]) w := run_typeAssert_lacksB Tryz.underlying138 (by kernel_rfl) (by kernel_rfl) v _ w
theorem as_field_16 (v : Value) (w : World) : (Instr.typeAssert (.iface 185 v) 44 141 true).run Tryz.prog w = .ok (.tuple #[.iface 185 v, .bool true]) w := run_typeAssert_hasB Tryz.underlying141 (by kernel_rfl) v _ w
theorem as_field_32 (v : Value) (w : World) : (Instr.typeAssert (.iface 185 v) 44 144 true).run Tryz.prog w = .ok (.tuple #[.nilIface, .bool false]) w := run_typeAssert_lacksB Tryz.underlying144 (by kernel_rfl) (by kernel_rfl) v _ w
theorem as_box_1 (v : Value) (w : World) : (Instr.typeAssert (.iface 186 v) 44 129 true).run Tryz.prog w = .ok (.tuple #[.iface 186 v, .bool true]) w := run_typeAssert_hasB Tryz.underlying129 (by kernel_rfl) v _ w
theorem as_box_2 (v : Value) (w : World) : (Instr.typeAssert (.iface 186 v) 44 132 true).run Tryz.prog w = .ok (.tuple #[.nilIface, .bool false]) w := run_typeAssert_lacksB Tryz.underlying132 (by kernel_rfl) (by kernel_rfl) v _ w
theorem as_box_4 (v : Value) (w : World) : (Instr.typeAssert (.iface 186 v) 44 135 true).run Tryz.prog w = .ok (.tuple #[.nilIface, .bool false]) w := run_typeAssert_lacksB Tryz.underlying135 (by kernel_rfl) (by kernel_rfl) v _ w
theorem as_box_8 (v : Value) (w : World) : (Instr.typeAssert (.iface 186 v) 44 138 true).run Tryz.prog w = .ok (.tuple #[.nilIface, .bool false]) w := run_typeAssert_lacksB Tryz.underlying138 (by kernel_rfl) (by kernel_rfl) v _ w
theorem as_box_16 (v : Value) (w : World) : (Instr.typeAssert (.iface 186 v) 44 141 true).run Tryz.prog w = .ok (.tuple #[.nilIface, .bool false]) w := run_typeAssert_lacksB Tryz.underlying141 (by kernel_rfl) (by kernel_rfl) v _ w
theorem as_box_32 (v : Value) (w : World) : (Instr.typeAssert (.iface 186 v) 44 144 true).run Tryz.prog w = .ok (.tuple #[.iface 186 v, .bool true]) w := run_typeAssert_hasB Tryz.underlying144 (by kernel_rfl) v _ w
theorem as_scroll_1 (v : Value) (w : World) : (Instr.typeAssert (.iface 187 v) 44 129 true).run Tryz.prog w = .ok (.tuple #[.iface 187 v, .bool true]) w := run_typeAssert_hasB Tryz.underlying129 (by kernel_rfl) v _ w
theorem as_scroll_2 (v : Value) (w : World) : (Instr.typeAssert (.iface 187 v) 44 132 true).run Tryz.prog w = .ok (.tuple #[.iface 187 v, .bool true]) w := run_typeAssert_hasB Tryz.underlying132 (by kernel_rfl) v _ w
theorem as_scroll_4 (v : Value) (w : World) : (Instr.typeAssert (.iface 187 v) 44 135 true).run Tryz.prog w = .ok (.tuple #[.iface 187 v, .bool true]) w := run_typeAssert_hasB Tryz.underlying135 (by kernel_rfl) v _ w
theorem as_scroll_8 (v : Value) (w : World) : (Instr.typeAssert (.iface 187 v) 44 138 true).run Tryz.prog w = .ok (.tuple #[.iface 187 v, .bool true]) w := run_typeAssert_hasB Tryz.underlying138 (by kernel_rfl) v _ w
theorem as_scroll_16 (v : Value) (w : World) : (Instr.typeAssert (.iface 187 v) 44 141 true).run Tryz.prog w = .ok (.tuple #[.nilIface, .bool false]) w := run_typeAssert_lacksB Tryz.underlying141 (by kernel_rfl) (by kernel_rfl) v _ w
theorem as_scroll_32 (v : Value) (w : World) : (Instr.typeAssert (.iface 187 v) 44 144 true).run Tryz.prog w = .ok (.tuple #[.iface 187 v, .bool true]) w := run_typeAssert_hasB Tryz.underlying144 (by kernel_rfl) v _ w
theorem as_canvas_1 (v : Value) (w : World) : (Instr.typeAssert (.iface 188 v) 44 129 true).run Tryz.prog w = .ok (.tuple #[.nilIface, .bool false]) w := run_typeAssert_lacksB Tryz.underlying129 (by kernel_rfl) (by kernel_rfl) v _ w
theorem as_canvas_2 (v : Value) (w : World) : (Instr.typeAssert (.iface 188 v) 44 132 true).run Tryz.prog w = .ok (.tuple #[.iface 188 v, .bool true]) w := run_typeAssert_hasB Tryz.underlying132 (by kernel_rfl) v _ w
theorem as_canvas_4 (v : Value) (w : World) : (Instr.typeAssert (.iface 188 v) 44 135 true).run Tryz.prog w = .ok (.tuple #[.nilIface, .bool false]) w := run_typeAssert_lacksB Tryz.underlying135 (by kernel_rfl) (by kernel_rfl) v _ w
theorem as_canvas_8 (v : Value) (w : World) : (Instr.typeAssert (.iface 188 v) 44 138 true).run Tryz.prog w = .ok (.tuple #[.nilIface, .bool false]) w := run_typeAssert_lacksB Tryz.underlying138 (by kernel_rfl) (by kernel_rfl) v _ w
theorem as_canvas_16 (v : Value) (w : World) : (Instr.typeAssert (.iface 188 v) 44 141 true).run Tryz.prog w = .ok (.tuple #[.nilIface, .bool false]) w := run_typeAssert_lacksB Tryz.underlying141 (by kernel_rfl) (by kernel_rfl) v _ w
theorem as_canvas_32 (v : Value) (w : World) : (Instr.typeAssert (.iface 188 v) 44 144 true).run Tryz.prog w = .ok (.tuple #[.nilIface, .bool false]) w := run_typeAssert_lacksB Tryz.underlying144 (by kernel_rfl) (by kernel_rfl) v _ w
theorem as_gap_1 (v : Value) (w : World) : (Instr.typeAssert (.iface 189 v) 44 129 true).run Tryz.prog w = .ok (.tuple #[.iface 189 v, .bool true]) w := run_typeAssert_hasB Tryz.underlying129 (by kernel_rfl) v _ w
theorem as_gap_2 (v : Value) (w : World) : (Instr.typeAssert (.iface 189 v) 44 132 true).run Tryz.prog w = .ok (.tuple #[.nilIface, .bool false]) w := run_typeAssert_lacksB Tryz.underlying132 (by kernel_rfl) (by kernel_rfl) v _ w
theorem as_gap_4 (v : Value) (w : World) : (Instr.typeAssert (.iface 189 v) 44 135 true).run Tryz.prog w = .ok (.tuple #[.nilIface, .bool false]) w := run_typeAssert_lacksB Tryz.underlying135 (by kernel_rfl) (by kernel_rfl) v _ w
theorem as_gap_8 (v : Value) (w : World) : (Instr.typeAssert (.iface 189 v) 44 138 true).run Tryz.prog w = .ok (.tuple #[.nilIface, .bool false]) w := run_typeAssert_lacksB Tryz.underlying138 (by kernel_rfl) (by kernel_rfl) v _ w
theorem as_gap_16 (v : Value) (w : World) : (Instr.typeAssert (.iface 189 v) 44 141 true).run Tryz.prog w = .ok (.tuple #[.nilIface, .bool false]) w := run_typeAssert_lacksB Tryz.underlying141 (by kernel_rfl) (by kernel_rfl) v _ w
theorem as_gap_32 (v : Value) (w : World) : (Instr.typeAssert (.iface 189 v) 44 144 true).run Tryz.prog w = .ok (.tuple #[.nilIface, .bool false]) w := run_typeAssert_lacksB Tryz.underlying144 (by kernel_rfl) (by kernel_rfl) v _ w
theorem as_nil_1 (w : World) : (Instr.typeAssert .nilIface 44 129 true).run Tryz.prog w = .ok (.tuple #[.nilIface, .bool false]) w := by kernel_rfl
theorem as_nil_2 (w : World) : (Instr.typeAssert .nilIface 44 132 true).run Tryz.prog w = .ok (.tuple #[.nilIface, .bool false]) w := by kernel_rfl
theorem as_nil_4 (w : World) : (Instr.typeAssert .nilIface 44 135 true).run Tryz.prog w = .ok (.tuple #[.nilIface, .bool false]) w := by kernel_rfl
theorem as_nil_8 (w : World) : (Instr.typeAssert .nilIface 44 138 true).run Tryz.prog w = .ok (.tuple #[.nilIface, .bool false]) w := by kernel_rfl
theorem as_nil_16 (w : World) : (Instr.typeAssert .nilIface 44 141 true).run Tryz.prog w = .ok (.tuple #[.nilIface, .bool false]) w := by kernel_rfl
theorem as_nil_32 (w : World) : (Instr.typeAssert .nilIface 44 144 true).run Tryz.prog w = .ok (.tuple #[.nilIface, .bool false]) w := by kernel_rfl

set_option maxHeartbeats 2000000 in
theorem abil_ty (t : Ty) (v : Value) (w : World) :
    Calls Tryz.prog 69 #[.iface t.id v] w fun e w' => e = .returned (.int .u16 (t.can : Nat)) ∧ w' = w := by
  cases t
  · simp only [Ty.id, Ty.can]
    have a1 := as_label_1
    have a2 := as_label_2
    have a3 := as_label_4
    have a4 := as_label_8
    have a5 := as_label_16
    have a6 := as_label_32
    go_enter Tryz.func69, Tryz.ntmps69
    go_wp2
    go_ret
    exact ⟨rfl, rfl⟩
  · simp only [Ty.id, Ty.can]
    have a1 := as_button_1
    have a2 := as_button_2
    have a3 := as_button_4
    have a4 := as_button_8
    have a5 := as_button_16
    have a6 := as_button_32
    go_enter Tryz.func69, Tryz.ntmps69
    go_wp2
    go_ret
    exact ⟨rfl, rfl⟩
  · simp only [Ty.id, Ty.can]
    have a1 := as_field_1
    have a2 := as_field_2
    have a3 := as_field_4
    have a4 := as_field_8
    have a5 := as_field_16
    have a6 := as_field_32
    go_enter Tryz.func69, Tryz.ntmps69
    go_wp2
    go_ret
    exact ⟨rfl, rfl⟩
  · simp only [Ty.id, Ty.can]
    have a1 := as_box_1
    have a2 := as_box_2
    have a3 := as_box_4
    have a4 := as_box_8
    have a5 := as_box_16
    have a6 := as_box_32
    go_enter Tryz.func69, Tryz.ntmps69
    go_wp2
    go_ret
    exact ⟨rfl, rfl⟩
  · simp only [Ty.id, Ty.can]
    have a1 := as_scroll_1
    have a2 := as_scroll_2
    have a3 := as_scroll_4
    have a4 := as_scroll_8
    have a5 := as_scroll_16
    have a6 := as_scroll_32
    go_enter Tryz.func69, Tryz.ntmps69
    go_wp2
    go_ret
    exact ⟨rfl, rfl⟩
  · simp only [Ty.id, Ty.can]
    have a1 := as_canvas_1
    have a2 := as_canvas_2
    have a3 := as_canvas_4
    have a4 := as_canvas_8
    have a5 := as_canvas_16
    have a6 := as_canvas_32
    go_enter Tryz.func69, Tryz.ntmps69
    go_wp2
    go_ret
    exact ⟨rfl, rfl⟩
  · simp only [Ty.id, Ty.can]
    have a1 := as_gap_1
    have a2 := as_gap_2
    have a3 := as_gap_4
    have a4 := as_gap_8
    have a5 := as_gap_16
    have a6 := as_gap_32
    go_enter Tryz.func69, Tryz.ntmps69
    go_wp2
    go_ret
    exact ⟨rfl, rfl⟩

theorem abil_nil (w : World) :
    Calls Tryz.prog 69 #[.nilIface] w fun e w' => e = .returned (.int .u16 0) ∧ w' = w := by
  have a1 := as_nil_1
  have a2 := as_nil_2
  have a3 := as_nil_4
  have a4 := as_nil_8
  have a5 := as_nil_16
  have a6 := as_nil_32
  go_enter Tryz.func69, Tryz.ntmps69
  go_wp2
  go_ret
  exact ⟨rfl, rfl⟩

theorem can_ty_any (t : Ty) (v : Value) (w : World) :
    Calls Tryz.prog 26 #[.iface t.id v] w fun e w' => e = .returned (.int .u16 (t.can : Nat)) ∧ w' = w := by
  have h := fun w => abil_ty t v w
  go_enter Tryz.func26, Tryz.ntmps26
  go_wp2_with fail
  refine (h _).mono ?_
  rintro e w1 ⟨rfl, rfl⟩
  go_wp2
  go_ret
  exact ⟨rfl, rfl⟩

theorem can_nil_any (w : World) :
    Calls Tryz.prog 26 #[.nilIface] w fun e w' => e = .returned (.int .u16 0) ∧ w' = w := by
  have h := fun w => abil_nil w
  go_enter Tryz.func26, Tryz.ntmps26
  go_wp2_with fail
  refine (h _).mono ?_
  rintro e w1 ⟨rfl, rfl⟩
  go_wp2
  go_ret
  exact ⟨rfl, rfl⟩

end Go.Proofs.YtbnbfgkcndomaabGreatDoor
