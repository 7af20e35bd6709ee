/-
  Types of parts: what holds under assertions on them, told by seven bits.
-/
import Derived.Test.YtbnbfgkcndomaabGreatDoorUX
namespace Go.Proofs.YtbnbfgkcndomaabGreatDoor
open Go.RowKit

/-- Of a type: which abilities it has, and whether it is an Unwrapper. -/
structure Tf (i : Nat) (b1 b2 b4 b8 b16 b32 u : Bool) : Prop where
  a1 : ∀ v w, (Instr.typeAssert (.iface i v) 44 129 true).run Tryz.prog w = .ok (.tuple #[bif b1 then .iface i v else .nilIface, .bool b1]) w
  a2 : ∀ v w, (Instr.typeAssert (.iface i v) 44 132 true).run Tryz.prog w = .ok (.tuple #[bif b2 then .iface i v else .nilIface, .bool b2]) w
  a4 : ∀ v w, (Instr.typeAssert (.iface i v) 44 135 true).run Tryz.prog w = .ok (.tuple #[bif b4 then .iface i v else .nilIface, .bool b4]) w
  a8 : ∀ v w, (Instr.typeAssert (.iface i v) 44 138 true).run Tryz.prog w = .ok (.tuple #[bif b8 then .iface i v else .nilIface, .bool b8]) w
  a16 : ∀ v w, (Instr.typeAssert (.iface i v) 44 141 true).run Tryz.prog w = .ok (.tuple #[bif b16 then .iface i v else .nilIface, .bool b16]) w
  a32 : ∀ v w, (Instr.typeAssert (.iface i v) 44 144 true).run Tryz.prog w = .ok (.tuple #[bif b32 then .iface i v else .nilIface, .bool b32]) w
  au : ∀ v w, (Instr.typeAssert (.iface i v) 44 74 true).run Tryz.prog w = .ok (.tuple #[bif u then .iface i v else .nilIface, .bool u]) w

theorem tf_label : Tf 183 true true false false false false false where
  a1 := fun v w => run_typeAssert_hasB Tryz.underlying129 (by kernel_rfl) v _ w
  a2 := fun v w => run_typeAssert_hasB Tryz.underlying132 (by kernel_rfl) v _ w
  a4 := fun v w => run_typeAssert_lacksB Tryz.underlying135 (by kernel_rfl) (by kernel_rfl) v _ w
  a8 := fun v w => run_typeAssert_lacksB Tryz.underlying138 (by kernel_rfl) (by kernel_rfl) v _ w
  a16 := fun v w => run_typeAssert_lacksB Tryz.underlying141 (by kernel_rfl) (by kernel_rfl) v _ w
  a32 := fun v w => run_typeAssert_lacksB Tryz.underlying144 (by kernel_rfl) (by kernel_rfl) v _ w
  au := fun v w => run_typeAssert_lacksB Tryz.underlying74 (by kernel_rfl) (by kernel_rfl) v _ w
theorem tf_button : Tf 184 true true true false false false false where
  a1 := fun v w => run_typeAssert_hasB Tryz.underlying129 (by kernel_rfl) v _ w
  a2 := fun v w => run_typeAssert_hasB Tryz.underlying132 (by kernel_rfl) v _ w
  a4 := fun v w => run_typeAssert_hasB Tryz.underlying135 (by kernel_rfl) v _ w
  a8 := fun v w => run_typeAssert_lacksB Tryz.underlying138 (by kernel_rfl) (by kernel_rfl) v _ w
  a16 := fun v w => run_typeAssert_lacksB Tryz.underlying141 (by kernel_rfl) (by kernel_rfl) v _ w
  a32 := fun v w => run_typeAssert_lacksB Tryz.underlying144 (by kernel_rfl) (by kernel_rfl) v _ w
  au := fun v w => run_typeAssert_lacksB Tryz.underlying74 (by kernel_rfl) (by kernel_rfl) v _ w
theorem tf_field : Tf 185 true true true false true false false where
  a1 := fun v w => run_typeAssert_hasB Tryz.underlying129 (by kernel_rfl) v _ w
  a2 := fun v w => run_typeAssert_hasB Tryz.underlying132 (by kernel_rfl) v _ w
  a4 := fun v w => run_typeAssert_hasB Tryz.underlying135 (by kernel_rfl) v _ w
  a8 := fun v w => run_typeAssert_lacksB Tryz.underlying138 (by kernel_rfl) (by kernel_rfl) v _ w
  a16 := fun v w => run_typeAssert_hasB Tryz.underlying141 (by kernel_rfl) v _ w
  a32 := fun v w => run_typeAssert_lacksB Tryz.underlying144 (by kernel_rfl) (by kernel_rfl) v _ w
  au := fun v w => run_typeAssert_lacksB Tryz.underlying74 (by kernel_rfl) (by kernel_rfl) v _ w
theorem tf_box : Tf 186 true false false false false true false where
  a1 := fun v w => run_typeAssert_hasB Tryz.underlying129 (by kernel_rfl) v _ w
  a2 := fun v w => run_typeAssert_lacksB Tryz.underlying132 (by kernel_rfl) (by kernel_rfl) v _ w
  a4 := fun v w => run_typeAssert_lacksB Tryz.underlying135 (by kernel_rfl) (by kernel_rfl) v _ w
  a8 := fun v w => run_typeAssert_lacksB Tryz.underlying138 (by kernel_rfl) (by kernel_rfl) v _ w
  a16 := fun v w => run_typeAssert_lacksB Tryz.underlying141 (by kernel_rfl) (by kernel_rfl) v _ w
  a32 := fun v w => run_typeAssert_hasB Tryz.underlying144 (by kernel_rfl) v _ w
  au := fun v w => run_typeAssert_lacksB Tryz.underlying74 (by kernel_rfl) (by kernel_rfl) v _ w
theorem tf_scroll : Tf 187 true true true true false true false where
  a1 := fun v w => run_typeAssert_hasB Tryz.underlying129 (by kernel_rfl) v _ w
  a2 := fun v w => run_typeAssert_hasB Tryz.underlying132 (by kernel_rfl) v _ w
  a4 := fun v w => run_typeAssert_hasB Tryz.underlying135 (by kernel_rfl) v _ w
  a8 := fun v w => run_typeAssert_hasB Tryz.underlying138 (by kernel_rfl) v _ w
  a16 := fun v w => run_typeAssert_lacksB Tryz.underlying141 (by kernel_rfl) (by kernel_rfl) v _ w
  a32 := fun v w => run_typeAssert_hasB Tryz.underlying144 (by kernel_rfl) v _ w
  au := fun v w => run_typeAssert_lacksB Tryz.underlying74 (by kernel_rfl) (by kernel_rfl) v _ w
theorem tf_canvas : Tf 188 false true false false false false false where
  a1 := fun v w => run_typeAssert_lacksB Tryz.underlying129 (by kernel_rfl) (by kernel_rfl) v _ w
  a2 := fun v w => run_typeAssert_hasB Tryz.underlying132 (by kernel_rfl) v _ w
  a4 := fun v w => run_typeAssert_lacksB Tryz.underlying135 (by kernel_rfl) (by kernel_rfl) v _ w
  a8 := fun v w => run_typeAssert_lacksB Tryz.underlying138 (by kernel_rfl) (by kernel_rfl) v _ w
  a16 := fun v w => run_typeAssert_lacksB Tryz.underlying141 (by kernel_rfl) (by kernel_rfl) v _ w
  a32 := fun v w => run_typeAssert_lacksB Tryz.underlying144 (by kernel_rfl) (by kernel_rfl) v _ w
  au := fun v w => run_typeAssert_lacksB Tryz.underlying74 (by kernel_rfl) (by kernel_rfl) v _ w
theorem tf_gap : Tf 189 true false false false false false false where
  a1 := fun v w => run_typeAssert_hasB Tryz.underlying129 (by kernel_rfl) v _ w
  a2 := fun v w => run_typeAssert_lacksB Tryz.underlying132 (by kernel_rfl) (by kernel_rfl) v _ w
  a4 := fun v w => run_typeAssert_lacksB Tryz.underlying135 (by kernel_rfl) (by kernel_rfl) v _ w
  a8 := fun v w => run_typeAssert_lacksB Tryz.underlying138 (by kernel_rfl) (by kernel_rfl) v _ w
  a16 := fun v w => run_typeAssert_lacksB Tryz.underlying141 (by kernel_rfl) (by kernel_rfl) v _ w
  a32 := fun v w => run_typeAssert_lacksB Tryz.underlying144 (by kernel_rfl) (by kernel_rfl) v _ w
  au := fun v w => run_typeAssert_lacksB Tryz.underlying74 (by kernel_rfl) (by kernel_rfl) v _ w
theorem tf_ty (t : Ty) : Tf t.id t.mes t.pai t.foc t.scr t.acc t.hol false := by
  cases t
  · exact tf_label
  · exact tf_button
  · exact tf_field
  · exact tf_box
  · exact tf_scroll
  · exact tf_canvas
  · exact tf_gap
theorem tf_half : Tf 114 false false false false false false true where
  a1 := fun v w => run_typeAssert_lacksB Tryz.underlying129 (by kernel_rfl) (by kernel_rfl) v _ w
  a2 := fun v w => run_typeAssert_lacksB Tryz.underlying132 (by kernel_rfl) (by kernel_rfl) v _ w
  a4 := fun v w => run_typeAssert_lacksB Tryz.underlying135 (by kernel_rfl) (by kernel_rfl) v _ w
  a8 := fun v w => run_typeAssert_lacksB Tryz.underlying138 (by kernel_rfl) (by kernel_rfl) v _ w
  a16 := fun v w => run_typeAssert_lacksB Tryz.underlying141 (by kernel_rfl) (by kernel_rfl) v _ w
  a32 := fun v w => run_typeAssert_lacksB Tryz.underlying144 (by kernel_rfl) (by kernel_rfl) v _ w
  au := fun v w => run_typeAssert_hasB Tryz.underlying74 (by kernel_rfl) v _ w

/-- Of a type: whether it is a half one; whether it counts its wrappers. -/
structure Tw (i : Nat) (h c : Bool) : Prop where
  ah : ∀ v w, (Instr.typeAssert (.iface i v) 44 114 true).run Tryz.prog w = .ok (.tuple #[bif h then v else .pointer none, .bool h]) w
  ac : ∀ v w, (Instr.typeAssert (.iface i v) 44 182 true).run Tryz.prog w = .ok (.tuple #[bif c then .iface i v else .nilIface, .bool c]) w

theorem tw_label : Tw 183 false false where
  ah := fun v w => by kernel_rfl
  ac := fun v w => run_typeAssert_lacksB Tryz.underlying182 (by kernel_rfl) (by kernel_rfl) v _ w
theorem tw_button : Tw 184 false false where
  ah := fun v w => by kernel_rfl
  ac := fun v w => run_typeAssert_lacksB Tryz.underlying182 (by kernel_rfl) (by kernel_rfl) v _ w
theorem tw_field : Tw 185 false false where
  ah := fun v w => by kernel_rfl
  ac := fun v w => run_typeAssert_lacksB Tryz.underlying182 (by kernel_rfl) (by kernel_rfl) v _ w
theorem tw_box : Tw 186 false false where
  ah := fun v w => by kernel_rfl
  ac := fun v w => run_typeAssert_lacksB Tryz.underlying182 (by kernel_rfl) (by kernel_rfl) v _ w
theorem tw_scroll : Tw 187 false false where
  ah := fun v w => by kernel_rfl
  ac := fun v w => run_typeAssert_lacksB Tryz.underlying182 (by kernel_rfl) (by kernel_rfl) v _ w
theorem tw_canvas : Tw 188 false false where
  ah := fun v w => by kernel_rfl
  ac := fun v w => run_typeAssert_lacksB Tryz.underlying182 (by kernel_rfl) (by kernel_rfl) v _ w
theorem tw_gap : Tw 189 false false where
  ah := fun v w => by kernel_rfl
  ac := fun v w => run_typeAssert_lacksB Tryz.underlying182 (by kernel_rfl) (by kernel_rfl) v _ w
theorem tw_ty (t : Ty) : Tw t.id false false := by
  cases t
  · exact tw_label
  · exact tw_button
  · exact tw_field
  · exact tw_box
  · exact tw_scroll
  · exact tw_canvas
  · exact tw_gap
theorem tw_half : Tw 114 true false where
  ah := fun v w => by kernel_rfl
  ac := fun v w => run_typeAssert_lacksB Tryz.underlying182 (by kernel_rfl) (by kernel_rfl) v _ w

/-- Six bits as a number. -/
def mkN (b1 b2 b4 b8 b16 b32 : Bool) : Nat := (bif b1 then 1 else 0) + (bif b2 then 2 else 0) + (bif b4 then 4 else 0) + (bif b8 then 8 else 0) + (bif b16 then 16 else 0) + (bif b32 then 32 else 0)
theorem mk_fin : ∀ k : Fin 64, mkN (k.val.testBit 0) (k.val.testBit 1) (k.val.testBit 2) (k.val.testBit 3) (k.val.testBit 4) (k.val.testBit 5) = k.val := by decide +kernel
theorem mk_k (k : Nat) (h : k < 64) : mkN (k.testBit 0) (k.testBit 1) (k.testBit 2) (k.testBit 3) (k.testBit 4) (k.testBit 5) = k := mk_fin ⟨k, h⟩
theorem mk_ty (t : Ty) : mkN t.mes t.pai t.foc t.scr t.acc t.hol = t.can := by cases t <;> rfl

set_option maxHeartbeats 8000000 in
theorem abilF {i : Nat} {b1 b2 b4 b8 b16 b32 u : Bool} (h : Tf i b1 b2 b4 b8 b16 b32 u) (v : Value) (w : World) :
    Calls Tryz.prog 69 #[.iface i v] w fun e w' => e = .returned (.int .u16 (mkN b1 b2 b4 b8 b16 b32 : Nat)) ∧ w' = w := by
  have a1 := h.a1
  have a2 := h.a2
  have a4 := h.a4
  have a8 := h.a8
  have a16 := h.a16
  have a32 := h.a32
  clear h
  cases b1 <;> cases b2 <;> cases b4 <;> cases b8 <;> cases b16 <;> cases b32
  all_goals
    simp only [cond_true, cond_false] at a1 a2 a4 a8 a16 a32
    go_enter Tryz.func69, Tryz.ntmps69
    go_wp2
    go_ret
    exact ⟨rfl, rfl⟩

set_option maxHeartbeats 8000000 in
theorem holdsF {i : Nat} {b1 b2 b4 b8 b16 b32 u : Bool} (h : Tf i b1 b2 b4 b8 b16 b32 u) (v : Value) (w : World) :
    Calls Tryz.prog 22 #[.iface i v] w fun e w' => e = .returned (.int .u16 (mkN b1 b2 b4 b8 b16 b32 : Nat)) ∧ w' = w := by
  have a1 := h.a1
  have a2 := h.a2
  have a4 := h.a4
  have a8 := h.a8
  have a16 := h.a16
  have a32 := h.a32
  clear h
  cases b1 <;> cases b2 <;> cases b4 <;> cases b8 <;> cases b16 <;> cases b32
  all_goals
    simp only [cond_true, cond_false] at a1 a2 a4 a8 a16 a32
    go_enter Tryz.func22, Tryz.ntmps22
    go_wp2
    go_ret
    exact ⟨rfl, rfl⟩

set_option maxHeartbeats 8000000 in
theorem holdsT {i : Nat} {b1 b2 b4 b8 b16 b32 u : Bool} (h : Tf i b1 b2 b4 b8 b16 b32 u) (v : Value) (w : World) :
    Calls Tryz.prog 32 #[.iface i v] w fun e w' => e = .returned (.int .u16 (mkN b1 b2 b4 b8 b16 b32 : Nat)) ∧ w' = w := by
  have a1 := h.a1
  have a2 := h.a2
  have a4 := h.a4
  have a8 := h.a8
  have a16 := h.a16
  have a32 := h.a32
  clear h
  cases b1 <;> cases b2 <;> cases b4 <;> cases b8 <;> cases b16 <;> cases b32
  all_goals
    simp only [cond_true, cond_false] at a1 a2 a4 a8 a16 a32
    go_enter Tryz.func32, Tryz.ntmps32
    go_wp2
    go_ret
    exact ⟨rfl, rfl⟩

theorem canF {i : Nat} {b1 b2 b4 b8 b16 b32 u : Bool} (h : Tf i b1 b2 b4 b8 b16 b32 u) (v : Value) (w : World) :
    Calls Tryz.prog 26 #[.iface i v] w fun e w' => e = .returned (.int .u16 (mkN b1 b2 b4 b8 b16 b32 : Nat)) ∧ w' = w := by
  have h := fun w => abilF h v w
  go_enter Tryz.func26, Tryz.ntmps26
  go_wp2_with fail
  refine (h _).mono ?_
  rintro e w1 ⟨rfl, rfl⟩
  go_wp2
  go_ret
  exact ⟨rfl, rfl⟩

end Go.Proofs.YtbnbfgkcndomaabGreatDoor
