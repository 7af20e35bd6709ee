/-
  The types of wrappers, made by a switch: typedHolding.
-/
import Derived.Test.YtbnbfgkcndomaabGreatDoorVU
namespace Go.Proofs.YtbnbfgkcndomaabGreatDoor
open Go.RowKit


set_option maxHeartbeats 1000000 in
theorem ty_32 (a : Nat) (w : World) :
    Calls Tryz.prog 105 #[.int .u16 32, .pointer (some ⟨a, 0, none⟩)] w fun e w' => ∃ b, e = .returned (.iface 287 (.pointer (some ⟨b, 0, none⟩))) ∧ PtrC w' b 2 a ∧ Below w.heap.size w w' := by
  go_enter Tryz.func105, Tryz.ntmps105
  go_wp2
  go_ret
  exact ⟨_, rfl, ptr2 (blk_new' _ _ _ _ (by simp)), by repeat (first | exact Below.refl _ _ | refine Below.alloc ?_ (by simp <;> omega) _)⟩
theorem tyd_32 (a : Nat) (w : World) :
    Calls Tryz.prog 55 #[.int .u16 32, .pointer (some ⟨a, 0, none⟩)] w fun e w' => ∃ b, e = .returned (.iface 287 (.pointer (some ⟨b, 0, none⟩))) ∧ PtrC w' b 2 a ∧ Below w.heap.size w w' := by
  go_enter Tryz.func55, Tryz.ntmps55
  go_wp2_with fail
  refine (ty_32 a _).mono ?_
  rintro e w1 ⟨b, rfl, hp, hb⟩
  go_wp2
  go_ret
  exact ⟨b, rfl, hp, hb⟩

set_option maxHeartbeats 1000000 in
theorem ty_33 (a : Nat) (w : World) :
    Calls Tryz.prog 105 #[.int .u16 33, .pointer (some ⟨a, 0, none⟩)] w fun e w' => ∃ b, e = .returned (.iface 290 (.pointer (some ⟨b, 0, none⟩))) ∧ PtrC w' b 3 a ∧ Below w.heap.size w w' := by
  go_enter Tryz.func105, Tryz.ntmps105
  go_wp2
  go_ret
  exact ⟨_, rfl, ptr3 (blk_new' _ _ _ _ (by simp)), by repeat (first | exact Below.refl _ _ | refine Below.alloc ?_ (by simp <;> omega) _)⟩
theorem tyd_33 (a : Nat) (w : World) :
    Calls Tryz.prog 55 #[.int .u16 33, .pointer (some ⟨a, 0, none⟩)] w fun e w' => ∃ b, e = .returned (.iface 290 (.pointer (some ⟨b, 0, none⟩))) ∧ PtrC w' b 3 a ∧ Below w.heap.size w w' := by
  go_enter Tryz.func55, Tryz.ntmps55
  go_wp2_with fail
  refine (ty_33 a _).mono ?_
  rintro e w1 ⟨b, rfl, hp, hb⟩
  go_wp2
  go_ret
  exact ⟨b, rfl, hp, hb⟩

set_option maxHeartbeats 1000000 in
theorem ty_34 (a : Nat) (w : World) :
    Calls Tryz.prog 105 #[.int .u16 34, .pointer (some ⟨a, 0, none⟩)] w fun e w' => ∃ b, e = .returned (.iface 293 (.pointer (some ⟨b, 0, none⟩))) ∧ PtrC w' b 3 a ∧ Below w.heap.size w w' := by
  go_enter Tryz.func105, Tryz.ntmps105
  go_wp2
  go_ret
  exact ⟨_, rfl, ptr3 (blk_new' _ _ _ _ (by simp)), by repeat (first | exact Below.refl _ _ | refine Below.alloc ?_ (by simp <;> omega) _)⟩
theorem tyd_34 (a : Nat) (w : World) :
    Calls Tryz.prog 55 #[.int .u16 34, .pointer (some ⟨a, 0, none⟩)] w fun e w' => ∃ b, e = .returned (.iface 293 (.pointer (some ⟨b, 0, none⟩))) ∧ PtrC w' b 3 a ∧ Below w.heap.size w w' := by
  go_enter Tryz.func55, Tryz.ntmps55
  go_wp2_with fail
  refine (ty_34 a _).mono ?_
  rintro e w1 ⟨b, rfl, hp, hb⟩
  go_wp2
  go_ret
  exact ⟨b, rfl, hp, hb⟩

set_option maxHeartbeats 1000000 in
theorem ty_35 (a : Nat) (w : World) :
    Calls Tryz.prog 105 #[.int .u16 35, .pointer (some ⟨a, 0, none⟩)] w fun e w' => ∃ b, e = .returned (.iface 296 (.pointer (some ⟨b, 0, none⟩))) ∧ PtrC w' b 4 a ∧ Below w.heap.size w w' := by
  go_enter Tryz.func105, Tryz.ntmps105
  go_wp2
  go_ret
  exact ⟨_, rfl, ptr4 (blk_new' _ _ _ _ (by simp)), by repeat (first | exact Below.refl _ _ | refine Below.alloc ?_ (by simp <;> omega) _)⟩
theorem tyd_35 (a : Nat) (w : World) :
    Calls Tryz.prog 55 #[.int .u16 35, .pointer (some ⟨a, 0, none⟩)] w fun e w' => ∃ b, e = .returned (.iface 296 (.pointer (some ⟨b, 0, none⟩))) ∧ PtrC w' b 4 a ∧ Below w.heap.size w w' := by
  go_enter Tryz.func55, Tryz.ntmps55
  go_wp2_with fail
  refine (ty_35 a _).mono ?_
  rintro e w1 ⟨b, rfl, hp, hb⟩
  go_wp2
  go_ret
  exact ⟨b, rfl, hp, hb⟩

set_option maxHeartbeats 1000000 in
theorem ty_36 (a : Nat) (w : World) :
    Calls Tryz.prog 105 #[.int .u16 36, .pointer (some ⟨a, 0, none⟩)] w fun e w' => ∃ b, e = .returned (.iface 299 (.pointer (some ⟨b, 0, none⟩))) ∧ PtrC w' b 3 a ∧ Below w.heap.size w w' := by
  go_enter Tryz.func105, Tryz.ntmps105
  go_wp2
  go_ret
  exact ⟨_, rfl, ptr3 (blk_new' _ _ _ _ (by simp)), by repeat (first | exact Below.refl _ _ | refine Below.alloc ?_ (by simp <;> omega) _)⟩
theorem tyd_36 (a : Nat) (w : World) :
    Calls Tryz.prog 55 #[.int .u16 36, .pointer (some ⟨a, 0, none⟩)] w fun e w' => ∃ b, e = .returned (.iface 299 (.pointer (some ⟨b, 0, none⟩))) ∧ PtrC w' b 3 a ∧ Below w.heap.size w w' := by
  go_enter Tryz.func55, Tryz.ntmps55
  go_wp2_with fail
  refine (ty_36 a _).mono ?_
  rintro e w1 ⟨b, rfl, hp, hb⟩
  go_wp2
  go_ret
  exact ⟨b, rfl, hp, hb⟩

set_option maxHeartbeats 1000000 in
theorem ty_37 (a : Nat) (w : World) :
    Calls Tryz.prog 105 #[.int .u16 37, .pointer (some ⟨a, 0, none⟩)] w fun e w' => ∃ b, e = .returned (.iface 302 (.pointer (some ⟨b, 0, none⟩))) ∧ PtrC w' b 4 a ∧ Below w.heap.size w w' := by
  go_enter Tryz.func105, Tryz.ntmps105
  go_wp2
  go_ret
  exact ⟨_, rfl, ptr4 (blk_new' _ _ _ _ (by simp)), by repeat (first | exact Below.refl _ _ | refine Below.alloc ?_ (by simp <;> omega) _)⟩
theorem tyd_37 (a : Nat) (w : World) :
    Calls Tryz.prog 55 #[.int .u16 37, .pointer (some ⟨a, 0, none⟩)] w fun e w' => ∃ b, e = .returned (.iface 302 (.pointer (some ⟨b, 0, none⟩))) ∧ PtrC w' b 4 a ∧ Below w.heap.size w w' := by
  go_enter Tryz.func55, Tryz.ntmps55
  go_wp2_with fail
  refine (ty_37 a _).mono ?_
  rintro e w1 ⟨b, rfl, hp, hb⟩
  go_wp2
  go_ret
  exact ⟨b, rfl, hp, hb⟩

set_option maxHeartbeats 1000000 in
theorem ty_38 (a : Nat) (w : World) :
    Calls Tryz.prog 105 #[.int .u16 38, .pointer (some ⟨a, 0, none⟩)] w fun e w' => ∃ b, e = .returned (.iface 305 (.pointer (some ⟨b, 0, none⟩))) ∧ PtrC w' b 4 a ∧ Below w.heap.size w w' := by
  go_enter Tryz.func105, Tryz.ntmps105
  go_wp2
  go_ret
  exact ⟨_, rfl, ptr4 (blk_new' _ _ _ _ (by simp)), by repeat (first | exact Below.refl _ _ | refine Below.alloc ?_ (by simp <;> omega) _)⟩
theorem tyd_38 (a : Nat) (w : World) :
    Calls Tryz.prog 55 #[.int .u16 38, .pointer (some ⟨a, 0, none⟩)] w fun e w' => ∃ b, e = .returned (.iface 305 (.pointer (some ⟨b, 0, none⟩))) ∧ PtrC w' b 4 a ∧ Below w.heap.size w w' := by
  go_enter Tryz.func55, Tryz.ntmps55
  go_wp2_with fail
  refine (ty_38 a _).mono ?_
  rintro e w1 ⟨b, rfl, hp, hb⟩
  go_wp2
  go_ret
  exact ⟨b, rfl, hp, hb⟩

set_option maxHeartbeats 1000000 in
theorem ty_39 (a : Nat) (w : World) :
    Calls Tryz.prog 105 #[.int .u16 39, .pointer (some ⟨a, 0, none⟩)] w fun e w' => ∃ b, e = .returned (.iface 308 (.pointer (some ⟨b, 0, none⟩))) ∧ PtrC w' b 5 a ∧ Below w.heap.size w w' := by
  go_enter Tryz.func105, Tryz.ntmps105
  go_wp2
  go_ret
  exact ⟨_, rfl, ptr5 (blk_new' _ _ _ _ (by simp)), by repeat (first | exact Below.refl _ _ | refine Below.alloc ?_ (by simp <;> omega) _)⟩
theorem tyd_39 (a : Nat) (w : World) :
    Calls Tryz.prog 55 #[.int .u16 39, .pointer (some ⟨a, 0, none⟩)] w fun e w' => ∃ b, e = .returned (.iface 308 (.pointer (some ⟨b, 0, none⟩))) ∧ PtrC w' b 5 a ∧ Below w.heap.size w w' := by
  go_enter Tryz.func55, Tryz.ntmps55
  go_wp2_with fail
  refine (ty_39 a _).mono ?_
  rintro e w1 ⟨b, rfl, hp, hb⟩
  go_wp2
  go_ret
  exact ⟨b, rfl, hp, hb⟩

set_option maxHeartbeats 1000000 in
theorem ty_40 (a : Nat) (w : World) :
    Calls Tryz.prog 105 #[.int .u16 40, .pointer (some ⟨a, 0, none⟩)] w fun e w' => ∃ b, e = .returned (.iface 311 (.pointer (some ⟨b, 0, none⟩))) ∧ PtrC w' b 3 a ∧ Below w.heap.size w w' := by
  go_enter Tryz.func105, Tryz.ntmps105
  go_wp2
  go_ret
  exact ⟨_, rfl, ptr3 (blk_new' _ _ _ _ (by simp)), by repeat (first | exact Below.refl _ _ | refine Below.alloc ?_ (by simp <;> omega) _)⟩
theorem tyd_40 (a : Nat) (w : World) :
    Calls Tryz.prog 55 #[.int .u16 40, .pointer (some ⟨a, 0, none⟩)] w fun e w' => ∃ b, e = .returned (.iface 311 (.pointer (some ⟨b, 0, none⟩))) ∧ PtrC w' b 3 a ∧ Below w.heap.size w w' := by
  go_enter Tryz.func55, Tryz.ntmps55
  go_wp2_with fail
  refine (ty_40 a _).mono ?_
  rintro e w1 ⟨b, rfl, hp, hb⟩
  go_wp2
  go_ret
  exact ⟨b, rfl, hp, hb⟩

set_option maxHeartbeats 1000000 in
theorem ty_41 (a : Nat) (w : World) :
    Calls Tryz.prog 105 #[.int .u16 41, .pointer (some ⟨a, 0, none⟩)] w fun e w' => ∃ b, e = .returned (.iface 314 (.pointer (some ⟨b, 0, none⟩))) ∧ PtrC w' b 4 a ∧ Below w.heap.size w w' := by
  go_enter Tryz.func105, Tryz.ntmps105
  go_wp2
  go_ret
  exact ⟨_, rfl, ptr4 (blk_new' _ _ _ _ (by simp)), by repeat (first | exact Below.refl _ _ | refine Below.alloc ?_ (by simp <;> omega) _)⟩
theorem tyd_41 (a : Nat) (w : World) :
    Calls Tryz.prog 55 #[.int .u16 41, .pointer (some ⟨a, 0, none⟩)] w fun e w' => ∃ b, e = .returned (.iface 314 (.pointer (some ⟨b, 0, none⟩))) ∧ PtrC w' b 4 a ∧ Below w.heap.size w w' := by
  go_enter Tryz.func55, Tryz.ntmps55
  go_wp2_with fail
  refine (ty_41 a _).mono ?_
  rintro e w1 ⟨b, rfl, hp, hb⟩
  go_wp2
  go_ret
  exact ⟨b, rfl, hp, hb⟩

set_option maxHeartbeats 1000000 in
theorem ty_42 (a : Nat) (w : World) :
    Calls Tryz.prog 105 #[.int .u16 42, .pointer (some ⟨a, 0, none⟩)] w fun e w' => ∃ b, e = .returned (.iface 317 (.pointer (some ⟨b, 0, none⟩))) ∧ PtrC w' b 4 a ∧ Below w.heap.size w w' := by
  go_enter Tryz.func105, Tryz.ntmps105
  go_wp2
  go_ret
  exact ⟨_, rfl, ptr4 (blk_new' _ _ _ _ (by simp)), by repeat (first | exact Below.refl _ _ | refine Below.alloc ?_ (by simp <;> omega) _)⟩
theorem tyd_42 (a : Nat) (w : World) :
    Calls Tryz.prog 55 #[.int .u16 42, .pointer (some ⟨a, 0, none⟩)] w fun e w' => ∃ b, e = .returned (.iface 317 (.pointer (some ⟨b, 0, none⟩))) ∧ PtrC w' b 4 a ∧ Below w.heap.size w w' := by
  go_enter Tryz.func55, Tryz.ntmps55
  go_wp2_with fail
  refine (ty_42 a _).mono ?_
  rintro e w1 ⟨b, rfl, hp, hb⟩
  go_wp2
  go_ret
  exact ⟨b, rfl, hp, hb⟩

set_option maxHeartbeats 1000000 in
theorem ty_43 (a : Nat) (w : World) :
    Calls Tryz.prog 105 #[.int .u16 43, .pointer (some ⟨a, 0, none⟩)] w fun e w' => ∃ b, e = .returned (.iface 320 (.pointer (some ⟨b, 0, none⟩))) ∧ PtrC w' b 5 a ∧ Below w.heap.size w w' := by
  go_enter Tryz.func105, Tryz.ntmps105
  go_wp2
  go_ret
  exact ⟨_, rfl, ptr5 (blk_new' _ _ _ _ (by simp)), by repeat (first | exact Below.refl _ _ | refine Below.alloc ?_ (by simp <;> omega) _)⟩
theorem tyd_43 (a : Nat) (w : World) :
    Calls Tryz.prog 55 #[.int .u16 43, .pointer (some ⟨a, 0, none⟩)] w fun e w' => ∃ b, e = .returned (.iface 320 (.pointer (some ⟨b, 0, none⟩))) ∧ PtrC w' b 5 a ∧ Below w.heap.size w w' := by
  go_enter Tryz.func55, Tryz.ntmps55
  go_wp2_with fail
  refine (ty_43 a _).mono ?_
  rintro e w1 ⟨b, rfl, hp, hb⟩
  go_wp2
  go_ret
  exact ⟨b, rfl, hp, hb⟩

set_option maxHeartbeats 1000000 in
theorem ty_44 (a : Nat) (w : World) :
    Calls Tryz.prog 105 #[.int .u16 44, .pointer (some ⟨a, 0, none⟩)] w fun e w' => ∃ b, e = .returned (.iface 323 (.pointer (some ⟨b, 0, none⟩))) ∧ PtrC w' b 4 a ∧ Below w.heap.size w w' := by
  go_enter Tryz.func105, Tryz.ntmps105
  go_wp2
  go_ret
  exact ⟨_, rfl, ptr4 (blk_new' _ _ _ _ (by simp)), by repeat (first | exact Below.refl _ _ | refine Below.alloc ?_ (by simp <;> omega) _)⟩
theorem tyd_44 (a : Nat) (w : World) :
    Calls Tryz.prog 55 #[.int .u16 44, .pointer (some ⟨a, 0, none⟩)] w fun e w' => ∃ b, e = .returned (.iface 323 (.pointer (some ⟨b, 0, none⟩))) ∧ PtrC w' b 4 a ∧ Below w.heap.size w w' := by
  go_enter Tryz.func55, Tryz.ntmps55
  go_wp2_with fail
  refine (ty_44 a _).mono ?_
  rintro e w1 ⟨b, rfl, hp, hb⟩
  go_wp2
  go_ret
  exact ⟨b, rfl, hp, hb⟩

set_option maxHeartbeats 1000000 in
theorem ty_45 (a : Nat) (w : World) :
    Calls Tryz.prog 105 #[.int .u16 45, .pointer (some ⟨a, 0, none⟩)] w fun e w' => ∃ b, e = .returned (.iface 326 (.pointer (some ⟨b, 0, none⟩))) ∧ PtrC w' b 5 a ∧ Below w.heap.size w w' := by
  go_enter Tryz.func105, Tryz.ntmps105
  go_wp2
  go_ret
  exact ⟨_, rfl, ptr5 (blk_new' _ _ _ _ (by simp)), by repeat (first | exact Below.refl _ _ | refine Below.alloc ?_ (by simp <;> omega) _)⟩
theorem tyd_45 (a : Nat) (w : World) :
    Calls Tryz.prog 55 #[.int .u16 45, .pointer (some ⟨a, 0, none⟩)] w fun e w' => ∃ b, e = .returned (.iface 326 (.pointer (some ⟨b, 0, none⟩))) ∧ PtrC w' b 5 a ∧ Below w.heap.size w w' := by
  go_enter Tryz.func55, Tryz.ntmps55
  go_wp2_with fail
  refine (ty_45 a _).mono ?_
  rintro e w1 ⟨b, rfl, hp, hb⟩
  go_wp2
  go_ret
  exact ⟨b, rfl, hp, hb⟩

set_option maxHeartbeats 1000000 in
theorem ty_46 (a : Nat) (w : World) :
    Calls Tryz.prog 105 #[.int .u16 46, .pointer (some ⟨a, 0, none⟩)] w fun e w' => ∃ b, e = .returned (.iface 329 (.pointer (some ⟨b, 0, none⟩))) ∧ PtrC w' b 5 a ∧ Below w.heap.size w w' := by
  go_enter Tryz.func105, Tryz.ntmps105
  go_wp2
  go_ret
  exact ⟨_, rfl, ptr5 (blk_new' _ _ _ _ (by simp)), by repeat (first | exact Below.refl _ _ | refine Below.alloc ?_ (by simp <;> omega) _)⟩
theorem tyd_46 (a : Nat) (w : World) :
    Calls Tryz.prog 55 #[.int .u16 46, .pointer (some ⟨a, 0, none⟩)] w fun e w' => ∃ b, e = .returned (.iface 329 (.pointer (some ⟨b, 0, none⟩))) ∧ PtrC w' b 5 a ∧ Below w.heap.size w w' := by
  go_enter Tryz.func55, Tryz.ntmps55
  go_wp2_with fail
  refine (ty_46 a _).mono ?_
  rintro e w1 ⟨b, rfl, hp, hb⟩
  go_wp2
  go_ret
  exact ⟨b, rfl, hp, hb⟩

set_option maxHeartbeats 1000000 in
theorem ty_47 (a : Nat) (w : World) :
    Calls Tryz.prog 105 #[.int .u16 47, .pointer (some ⟨a, 0, none⟩)] w fun e w' => ∃ b, e = .returned (.iface 332 (.pointer (some ⟨b, 0, none⟩))) ∧ PtrC w' b 6 a ∧ Below w.heap.size w w' := by
  go_enter Tryz.func105, Tryz.ntmps105
  go_wp2
  go_ret
  exact ⟨_, rfl, ptr6 (blk_new' _ _ _ _ (by simp)), by repeat (first | exact Below.refl _ _ | refine Below.alloc ?_ (by simp <;> omega) _)⟩
theorem tyd_47 (a : Nat) (w : World) :
    Calls Tryz.prog 55 #[.int .u16 47, .pointer (some ⟨a, 0, none⟩)] w fun e w' => ∃ b, e = .returned (.iface 332 (.pointer (some ⟨b, 0, none⟩))) ∧ PtrC w' b 6 a ∧ Below w.heap.size w w' := by
  go_enter Tryz.func55, Tryz.ntmps55
  go_wp2_with fail
  refine (ty_47 a _).mono ?_
  rintro e w1 ⟨b, rfl, hp, hb⟩
  go_wp2
  go_ret
  exact ⟨b, rfl, hp, hb⟩

end Go.Proofs.YtbnbfgkcndomaabGreatDoor
