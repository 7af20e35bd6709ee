/-
  The types of wrappers, made by a switch: those that hold.
-/
import Derived.Test.YtbnbfgkcndomaabGreatDoorVU
namespace Go.Proofs.YtbnbfgkcndomaabGreatDoor
open Go.RowKit


set_option maxHeartbeats 1000000 in
theorem ty_32 (a : Nat) (w : World) :
    Calls Tryz.prog 105 #[.int .u16 32, .pointer (some ⟨a, 0, none⟩)] w fun e w' => ∃ b, e = .returned (.iface 287 (.pointer (some ⟨b, 0, none⟩))) ∧ PtrC w' b 2 a ∧ Below w.heap.size w w' := by
  go_enter Tryz.func105, Tryz.ntmps105
  go_wp2
  go_ret
  exact ⟨_, rfl, ptr2 (blk_new' _ _ _ _ (by simp)), by repeat (first | exact Below.refl _ _ | refine Below.alloc ?_ (by simp <;> omega) _)⟩
theorem tyd_32 (a : Nat) (w : World) :
    Calls Tryz.prog 55 #[.int .u16 32, .pointer (some ⟨a, 0, none⟩)] w fun e w' => ∃ b, e = .returned (.iface 287 (.pointer (some ⟨b, 0, none⟩))) ∧ PtrC w' b 2 a ∧ Below w.heap.size w w' := by
  go_enter Tryz.func55, Tryz.ntmps55
  go_wp2_with fail
  refine (ty_32 a _).mono ?_
  rintro e w1 ⟨b, rfl, hp, hb⟩
  go_wp2
  go_ret
  exact ⟨b, rfl, hp, hb⟩

set_option maxHeartbeats 1000000 in
theorem ty_33 (a : Nat) (w : World) :
    Calls Tryz.prog 105 #[.int .u16 33, .pointer (some ⟨a, 0, none⟩)] w fun e w' => ∃ b, e = .returned (.iface 290 (.pointer (some ⟨b, 0, none⟩))) ∧ PtrC w' b 3 a ∧ Below w.heap.size w w' := by
  go_enter Tryz.func105, Tryz.ntmps105
  go_wp2
  go_ret
  exact ⟨_, rfl, ptr3 (blk_new' _ _ _ _ (by simp)), by repeat (first | exact Below.refl _ _ | refine Below.alloc ?_ (by simp <;> omega) _)⟩
theorem tyd_33 (a : Nat) (w : World) :
    Calls Tryz.prog 55 #[.int .u16 33, .pointer (some ⟨a, 0, none⟩)] w fun e w' => ∃ b, e = .returned (.iface 290 (.pointer (some ⟨b, 0, none⟩))) ∧ PtrC w' b 3 a ∧ Below w.heap.size w w' := by
  go_enter Tryz.func55, Tryz.ntmps55
  go_wp2_with fail
  refine (ty_33 a _).mono ?_
  rintro e w1 ⟨b, rfl, hp, hb⟩
  go_wp2
  go_ret
  exact ⟨b, rfl, hp, hb⟩

set_option maxHeartbeats 1000000 in
theorem ty_34 (a : Nat) (w : World) :
    Calls Tryz.prog 105 #[.int .u16 34, .pointer (some ⟨a, 0, none⟩)] w fun e w' => ∃ b, e = .returned (.iface 293 (.pointer (some ⟨b, 0, none⟩))) ∧ PtrC w' b 3 a ∧ Below w.heap.size w w' := by
  go_enter Tryz.func105, Tryz.ntmps105
  go_wp2
  go_ret
  exact ⟨_, rfl, ptr3 (blk_new' _ _ _ _ (by simp)), by repeat (first | exact Below.refl _ _ | refine Below.alloc ?_ (by simp <;> omega) _)⟩
theorem tyd_34 (a : Nat) (w : World) :
    Calls Tryz.prog 55 #[.int .u16 34, .pointer (some ⟨a, 0, none⟩)] w fun e w' => ∃ b, e = .returned (.iface 293 (.pointer (some ⟨b, 0, none⟩))) ∧ PtrC w' b 3 a ∧ Below w.heap.size w w' := by
  go_enter Tryz.func55, Tryz.ntmps55
  go_wp2_with fail
  refine (ty_34 a _).mono ?_
  rintro e w1 ⟨b, rfl, hp, hb⟩
  go_wp2
  go_ret
  exact ⟨b, rfl, hp, hb⟩

set_option maxHeartbeats 1000000 in
theorem ty_35 (a : Nat) (w : World) :
    Calls Tryz.prog 105 #[.int .u16 35, .pointer (some ⟨a, 0, none⟩)] w fun e w' => ∃ b, e = .returned (.iface 296 (.pointer (some ⟨b, 0, none⟩))) ∧ PtrC w' b 4 a ∧ Below w.heap.size w w' := by
  go_enter Tryz.func105, Tryz.ntmps105
  go_wp2
  go_ret
  exact ⟨_, rfl, ptr4 (blk_new' _ _ _ _ (by simp)), by repeat (first | exact Below.refl _ _ | refine Below.alloc ?_ (by simp <;> omega) _)⟩
theorem tyd_35 (a : Nat) (w : World) :
    Calls Tryz.prog 55 #[.int .u16 35, .pointer (some ⟨a, 0, none⟩)] w fun e w' => ∃ b, e = .returned (.iface 296 (.pointer (some ⟨b, 0, none⟩))) ∧ PtrC w' b 4 a ∧ Below w.heap.size w w' := by
  go_enter Tryz.func55, Tryz.ntmps55
  go_wp2_with fail
  refine (ty_35 a _).mono ?_
  rintro e w1 ⟨b, rfl, hp, hb⟩
  go_wp2
  go_ret
  exact ⟨b, rfl, hp, hb⟩

set_option maxHeartbeats 1000000 in
theorem ty_36 (a : Nat) (w : World) :
    Calls Tryz.prog 105 #[.int .u16 36, .pointer (some ⟨a, 0, none⟩)] w fun e w' => ∃ b, e = .returned (.iface 299 (.pointer (some ⟨b, 0, none⟩))) ∧ PtrC w' b 3 a ∧ Below w.heap.size w w' := by
  go_enter Tryz.func105, Tryz.ntmps105
  go_wp2
  go_ret
  exact ⟨_, rfl, ptr3 (blk_new' _ _ _ _ (by simp)), by repeat (first | exact Below.refl _ _ | refine Below.alloc ?_ (by simp <;> omega) _)⟩
theorem tyd_36 (a : Nat) (w : World) :
    Calls Tryz.prog 55 #[.int .u16 36, .pointer (some ⟨a, 0, none⟩)] w fun e w' => ∃ b, e = .returned (.iface 299 (.pointer (some ⟨b, 0, none⟩))) ∧ PtrC w' b 3 a ∧ Below w.heap.size w w' := by
  go_enter Tryz.func55, Tryz.ntmps55
  go_wp2_with fail
  refine (ty_36 a _).mono ?_
  rintro e w1 ⟨b, rfl, hp, hb⟩
  go_wp2
  go_ret
  exact ⟨b, rfl, hp, hb⟩

set_option maxHeartbeats 1000000 in
theorem ty_37 (a : Nat) (w : World) :
    Calls Tryz.prog 105 #[.int .u16 37, .pointer (some ⟨a, 0, none⟩)] w fun e w' => ∃ b, e = .returned (.iface 302 (.pointer (some ⟨b, 0, none⟩))) ∧ PtrC w' b 4 a ∧ Below w.heap.size w w' := by
  go_enter Tryz.func105, Tryz.ntmps105
  go_wp2
  go_ret
  exact ⟨_, rfl, ptr4 (blk_new' _ _ _ _ (by simp)), by repeat (first | exact Below.refl _ _ | refine Below.alloc ?_ (by simp <;> omega) _)⟩
theorem tyd_37 (a : Nat) (w : World) :
    Calls Tryz.prog 55 #[.int .u16 37, .pointer (some ⟨a, 0, none⟩)] w fun e w' => ∃ b, e = .returned (.iface 302 (.pointer (some ⟨b, 0, none⟩))) ∧ PtrC w' b 4 a ∧ Below w.heap.size w w' := by
  go_enter Tryz.func55, Tryz.ntmps55
  go_wp2_with fail
  refine (ty_37 a _).mono ?_
  rintro e w1 ⟨b, rfl, hp, hb⟩
  go_wp2
  go_ret
  exact ⟨b, rfl, hp, hb⟩

set_option maxHeartbeats 1000000 in
theorem ty_38 (a : Nat) (w : World) :
    Calls Tryz.prog 105 #[.int .u16 38, .pointer (some ⟨a, 0, none⟩)] w fun e w' => ∃ b, e = .returned (.iface 305 (.pointer (some ⟨b, 0, none⟩))) ∧ PtrC w' b 4 a ∧ Below w.heap.size w w' := by
  go_enter Tryz.func105, Tryz.ntmps105
  go_wp2
  go_ret
  exact ⟨_, rfl, ptr4 (blk_new' _ _ _ _ (by simp)), by repeat (first | exact Below.refl _ _ | refine Below.alloc ?_ (by simp <;> omega) _)⟩
theorem tyd_38 (a : Nat) (w : World) :
    Calls Tryz.prog 55 #[.int .u16 38, .pointer (some ⟨a, 0, none⟩)] w fun e w' => ∃ b, e = .returned (.iface 305 (.pointer (some ⟨b, 0, none⟩))) ∧ PtrC w' b 4 a ∧ Below w.heap.size w w' := by
  go_enter Tryz.func55, Tryz.ntmps55
  go_wp2_with fail
  refine (ty_38 a _).mono ?_
  rintro e w1 ⟨b, rfl, hp, hb⟩
  go_wp2
  go_ret
  exact ⟨b, rfl, hp, hb⟩

set_option maxHeartbeats 1000000 in
theorem ty_39 (a : Nat) (w : World) :
    Calls Tryz.prog 105 #[.int .u16 39, .pointer (some ⟨a, 0, none⟩)] w fun e w' => ∃ b, e = .returned (.iface 308 (.pointer (some ⟨b, 0, none⟩))) ∧ PtrC w' b 5 a ∧ Below w.heap.size w w' := by
  go_enter Tryz.func105, Tryz.ntmps105
  go_wp2
  go_ret
  exact ⟨_, rfl, ptr5 (blk_new' _ _ _ _ (by simp)), by repeat (first | exact Below.refl _ _ | refine Below.alloc ?_ (by simp <;> omega) _)⟩
theorem tyd_39 (a : Nat) (w : World) :
    Calls Tryz.prog 55 #[.int .u16 39, .pointer (some ⟨a, 0, none⟩)] w fun e w' => ∃ b, e = .returned (.iface 308 (.pointer (some ⟨b, 0, none⟩))) ∧ PtrC w' b 5 a ∧ Below w.heap.size w w' := by
  go_enter Tryz.func55, Tryz.ntmps55
  go_wp2_with fail
  refine (ty_39 a _).mono ?_
  rintro e w1 ⟨b, rfl, hp, hb⟩
  go_wp2
  go_ret
  exact ⟨b, rfl, hp, hb⟩

set_option maxHeartbeats 1000000 in
theorem ty_40 (a : Nat) (w : World) :
    Calls Tryz.prog 105 #[.int .u16 40, .pointer (some ⟨a, 0, none⟩)] w fun e w' => ∃ b, e = .returned (.iface 311 (.pointer (some ⟨b, 0, none⟩))) ∧ PtrC w' b 3 a ∧ Below w.heap.size w w' := by
  go_enter Tryz.func105, Tryz.ntmps105
  go_wp2
  go_ret
  exact ⟨_, rfl, ptr3 (blk_new' _ _ _ _ (by simp)), by repeat (first | exact Below.refl _ _ | refine Below.alloc ?_ (by simp <;> omega) _)⟩
theorem tyd_40 (a : Nat) (w : World) :
    Calls Tryz.prog 55 #[.int .u16 40, .pointer (some ⟨a, 0, none⟩)] w fun e w' => ∃ b, e = .returned (.iface 311 (.pointer (some ⟨b, 0, none⟩))) ∧ PtrC w' b 3 a ∧ Below w.heap.size w w' := by
  go_enter Tryz.func55, Tryz.ntmps55
  go_wp2_with fail
  refine (ty_40 a _).mono ?_
  rintro e w1 ⟨b, rfl, hp, hb⟩
  go_wp2
  go_ret
  exact ⟨b, rfl, hp, hb⟩

set_option maxHeartbeats 1000000 in
theorem ty_41 (a : Nat) (w : World) :
    Calls Tryz.prog 105 #[.int .u16 41, .pointer (some ⟨a, 0, none⟩)] w fun e w' => ∃ b, e = .returned (.iface 314 (.pointer (some ⟨b, 0, none⟩))) ∧ PtrC w' b 4 a ∧ Below w.heap.size w w' := by
  go_enter Tryz.func105, Tryz.ntmps105
  go_wp2
  go_ret
  exact ⟨_, rfl, ptr4 (blk_new' _ _ _ _ (by simp)), by repeat (first | exact Below.refl _ _ | refine Below.alloc ?_ (by simp <;> omega) _)⟩
theorem tyd_41 (a : Nat) (w : World) :
    Calls Tryz.prog 55 #[.int .u16 41, .pointer (some ⟨a, 0, none⟩)] w fun e w' => ∃ b, e = .returned (.iface 314 (.pointer (some ⟨b, 0, none⟩))) ∧ PtrC w' b 4 a ∧ Below w.heap.size w w' := by
  go_enter Tryz.func55, Tryz.ntmps55
  go_wp2_with fail
  refine (ty_41 a _).mono ?_
  rintro e w1 ⟨b, rfl, hp, hb⟩
  go_wp2
  go_ret
  exact ⟨b, rfl, hp, hb⟩

set_option maxHeartbeats 1000000 in
theorem ty_42 (a : Nat) (w : World) :
    Calls Tryz.prog 105 #[.int .u16 42, .pointer (some ⟨a, 0, none⟩)] w fun e w' => ∃ b, e = .returned (.iface 317 (.pointer (some ⟨b, 0, none⟩))) ∧ PtrC w' b 4 a ∧ Below w.heap.size w w' := by
  go_enter Tryz.func105, Tryz.ntmps105
  go_wp2
  go_ret
  exact ⟨_, rfl, ptr4 (blk_new' _ _ _ _ (by simp)), by repeat (first | exact Below.refl _ _ | refine Below.alloc ?_ (by simp <;> omega) _)⟩
theorem tyd_42 (a : Nat) (w : World) :
    Calls Tryz.prog 55 #[.int .u16 42, .pointer (some ⟨a, 0, none⟩)] w fun e w' => ∃ b, e = .returned (.iface 317 (.pointer (some ⟨b, 0, none⟩))) ∧ PtrC w' b 4 a ∧ Below w.heap.size w w' := by
  go_enter Tryz.func55, Tryz.ntmps55
  go_wp2_with fail
  refine (ty_42 a _).mono ?_
  rintro e w1 ⟨b, rfl, hp, hb⟩
  go_wp2
  go_ret
  exact ⟨b, rfl, hp, hb⟩

set_option maxHeartbeats 1000000 in
theorem ty_43 (a : Nat) (w : World) :
    Calls Tryz.prog 105 #[.int .u16 43, .pointer (some ⟨a, 0, none⟩)] w fun e w' => ∃ b, e = .returned (.iface 320 (.pointer (some ⟨b, 0, none⟩))) ∧ PtrC w' b 5 a ∧ Below w.heap.size w w' := by
  go_enter Tryz.func105, Tryz.ntmps105
  go_wp2
  go_ret
  exact ⟨_, rfl, ptr5 (blk_new' _ _ _ _ (by simp)), by repeat (first | exact Below.refl _ _ | refine Below.alloc ?_ (by simp <;> omega) _)⟩
theorem tyd_43 (a : Nat) (w : World) :
    Calls Tryz.prog 55 #[.int .u16 43, .pointer (some ⟨a, 0, none⟩)] w fun e w' => ∃ b, e = .returned (.iface 320 (.pointer (some ⟨b, 0, none⟩))) ∧ PtrC w' b 5 a ∧ Below w.heap.size w w' := by
  go_enter Tryz.func55, Tryz.ntmps55
  go_wp2_with fail
  refine (ty_43 a _).mono ?_
  rintro e w1 ⟨b, rfl, hp, hb⟩
  go_wp2
  go_ret
  exact ⟨b, rfl, hp, hb⟩

set_option maxHeartbeats 1000000 in
theorem ty_44 (a : Nat) (w : World) :
    Calls Tryz.prog 105 #[.int .u16 44, .pointer (some ⟨a, 0, none⟩)] w fun e w' => ∃ b, e = .returned (.iface 323 (.pointer (some ⟨b, 0, none⟩))) ∧ PtrC w' b 4 a ∧ Below w.heap.size w w' := by
  go_enter Tryz.func105, Tryz.ntmps105
  go_wp2
  go_ret
  exact ⟨_, rfl, ptr4 (blk_new' _ _ _ _ (by simp)), by repeat (first | exact Below.refl _ _ | refine Below.alloc ?_ (by simp <;> omega) _)⟩
theorem tyd_44 (a : Nat) (w : World) :
    Calls Tryz.prog 55 #[.int .u16 44, .pointer (some ⟨a, 0, none⟩)] w fun e w' => ∃ b, e = .returned (.iface 323 (.pointer (some ⟨b, 0, none⟩))) ∧ PtrC w' b 4 a ∧ Below w.heap.size w w' := by
  go_enter Tryz.func55, Tryz.ntmps55
  go_wp2_with fail
  refine (ty_44 a _).mono ?_
  rintro e w1 ⟨b, rfl, hp, hb⟩
  go_wp2
  go_ret
  exact ⟨b, rfl, hp, hb⟩

set_option maxHeartbeats 1000000 in
theorem ty_45 (a : Nat) (w : World) :
    Calls Tryz.prog 105 #[.int .u16 45, .pointer (some ⟨a, 0, none⟩)] w fun e w' => ∃ b, e = .returned (.iface 326 (.pointer (some ⟨b, 0, none⟩))) ∧ PtrC w' b 5 a ∧ Below w.heap.size w w' := by
  go_enter Tryz.func105, Tryz.ntmps105
  go_wp2
  go_ret
  exact ⟨_, rfl, ptr5 (blk_new' _ _ _ _ (by simp)), by repeat (first | exact Below.refl _ _ | refine Below.alloc ?_ (by simp <;> omega) _)⟩
theorem tyd_45 (a : Nat) (w : World) :
    Calls Tryz.prog 55 #[.int .u16 45, .pointer (some ⟨a, 0, none⟩)] w fun e w' => ∃ b, e = .returned (.iface 326 (.pointer (some ⟨b, 0, none⟩))) ∧ PtrC w' b 5 a ∧ Below w.heap.size w w' := by
  go_enter Tryz.func55, Tryz.ntmps55
  go_wp2_with fail
  refine (ty_45 a _).mono ?_
  rintro e w1 ⟨b, rfl, hp, hb⟩
  go_wp2
  go_ret
  exact ⟨b, rfl, hp, hb⟩

set_option maxHeartbeats 1000000 in
theorem ty_46 (a : Nat) (w : World) :
    Calls Tryz.prog 105 #[.int .u16 46, .pointer (some ⟨a, 0, none⟩)] w fun e w' => ∃ b, e = .returned (.iface 329 (.pointer (some ⟨b, 0, none⟩))) ∧ PtrC w' b 5 a ∧ Below w.heap.size w w' := by
  go_enter Tryz.func105, Tryz.ntmps105
  go_wp2
  go_ret
  exact ⟨_, rfl, ptr5 (blk_new' _ _ _ _ (by simp)), by repeat (first | exact Below.refl _ _ | refine Below.alloc ?_ (by simp <;> omega) _)⟩
theorem tyd_46 (a : Nat) (w : World) :
    Calls Tryz.prog 55 #[.int .u16 46, .pointer (some ⟨a, 0, none⟩)] w fun e w' => ∃ b, e = .returned (.iface 329 (.pointer (some ⟨b, 0, none⟩))) ∧ PtrC w' b 5 a ∧ Below w.heap.size w w' := by
  go_enter Tryz.func55, Tryz.ntmps55
  go_wp2_with fail
  refine (ty_46 a _).mono ?_
  rintro e w1 ⟨b, rfl, hp, hb⟩
  go_wp2
  go_ret
  exact ⟨b, rfl, hp, hb⟩

set_option maxHeartbeats 1000000 in
theorem ty_47 (a : Nat) (w : World) :
    Calls Tryz.prog 105 #[.int .u16 47, .pointer (some ⟨a, 0, none⟩)] w fun e w' => ∃ b, e = .returned (.iface 332 (.pointer (some ⟨b, 0, none⟩))) ∧ PtrC w' b 6 a ∧ Below w.heap.size w w' := by
  go_enter Tryz.func105, Tryz.ntmps105
  go_wp2
  go_ret
  exact ⟨_, rfl, ptr6 (blk_new' _ _ _ _ (by simp)), by repeat (first | exact Below.refl _ _ | refine Below.alloc ?_ (by simp <;> omega) _)⟩
theorem tyd_47 (a : Nat) (w : World) :
    Calls Tryz.prog 55 #[.int .u16 47, .pointer (some ⟨a, 0, none⟩)] w fun e w' => ∃ b, e = .returned (.iface 332 (.pointer (some ⟨b, 0, none⟩))) ∧ PtrC w' b 6 a ∧ Below w.heap.size w w' := by
  go_enter Tryz.func55, Tryz.ntmps55
  go_wp2_with fail
  refine (ty_47 a _).mono ?_
  rintro e w1 ⟨b, rfl, hp, hb⟩
  go_wp2
  go_ret
  exact ⟨b, rfl, hp, hb⟩

end Go.Proofs.YtbnbfgkcndomaabGreatDoor

namespace Go.Proofs.YtbnbfgkcndomaabGreatDoor
open Go.RowKit


set_option maxRecDepth 10000 in
set_option maxHeartbeats 1000000 in
theorem ty_48 (a : Nat) (w : World) :
    Calls Tryz.prog 106 #[.int .u16 48, .pointer (some ⟨a, 0, none⟩)] w fun e w' => ∃ b, e = .returned (.iface 335 (.pointer (some ⟨b, 0, none⟩))) ∧ PtrC w' b 3 a ∧ Below w.heap.size w w' := by
  go_enter Tryz.func106, Tryz.ntmps106
  go_wp2
  go_ret
  exact ⟨_, rfl, ptr3 (blk_new' _ _ _ _ (by simp)), by repeat (first | exact Below.refl _ _ | refine Below.alloc ?_ (by simp <;> omega) _)⟩
theorem tyd_48 (a : Nat) (w : World) :
    Calls Tryz.prog 55 #[.int .u16 48, .pointer (some ⟨a, 0, none⟩)] w fun e w' => ∃ b, e = .returned (.iface 335 (.pointer (some ⟨b, 0, none⟩))) ∧ PtrC w' b 3 a ∧ Below w.heap.size w w' := by
  go_enter Tryz.func55, Tryz.ntmps55
  go_wp2_with fail
  refine (ty_48 a _).mono ?_
  rintro e w1 ⟨b, rfl, hp, hb⟩
  go_wp2
  go_ret
  exact ⟨b, rfl, hp, hb⟩

set_option maxRecDepth 10000 in
set_option maxHeartbeats 1000000 in
theorem ty_49 (a : Nat) (w : World) :
    Calls Tryz.prog 106 #[.int .u16 49, .pointer (some ⟨a, 0, none⟩)] w fun e w' => ∃ b, e = .returned (.iface 338 (.pointer (some ⟨b, 0, none⟩))) ∧ PtrC w' b 4 a ∧ Below w.heap.size w w' := by
  go_enter Tryz.func106, Tryz.ntmps106
  go_wp2
  go_ret
  exact ⟨_, rfl, ptr4 (blk_new' _ _ _ _ (by simp)), by repeat (first | exact Below.refl _ _ | refine Below.alloc ?_ (by simp <;> omega) _)⟩
theorem tyd_49 (a : Nat) (w : World) :
    Calls Tryz.prog 55 #[.int .u16 49, .pointer (some ⟨a, 0, none⟩)] w fun e w' => ∃ b, e = .returned (.iface 338 (.pointer (some ⟨b, 0, none⟩))) ∧ PtrC w' b 4 a ∧ Below w.heap.size w w' := by
  go_enter Tryz.func55, Tryz.ntmps55
  go_wp2_with fail
  refine (ty_49 a _).mono ?_
  rintro e w1 ⟨b, rfl, hp, hb⟩
  go_wp2
  go_ret
  exact ⟨b, rfl, hp, hb⟩

set_option maxRecDepth 10000 in
set_option maxHeartbeats 1000000 in
theorem ty_50 (a : Nat) (w : World) :
    Calls Tryz.prog 106 #[.int .u16 50, .pointer (some ⟨a, 0, none⟩)] w fun e w' => ∃ b, e = .returned (.iface 341 (.pointer (some ⟨b, 0, none⟩))) ∧ PtrC w' b 4 a ∧ Below w.heap.size w w' := by
  go_enter Tryz.func106, Tryz.ntmps106
  go_wp2
  go_ret
  exact ⟨_, rfl, ptr4 (blk_new' _ _ _ _ (by simp)), by repeat (first | exact Below.refl _ _ | refine Below.alloc ?_ (by simp <;> omega) _)⟩
theorem tyd_50 (a : Nat) (w : World) :
    Calls Tryz.prog 55 #[.int .u16 50, .pointer (some ⟨a, 0, none⟩)] w fun e w' => ∃ b, e = .returned (.iface 341 (.pointer (some ⟨b, 0, none⟩))) ∧ PtrC w' b 4 a ∧ Below w.heap.size w w' := by
  go_enter Tryz.func55, Tryz.ntmps55
  go_wp2_with fail
  refine (ty_50 a _).mono ?_
  rintro e w1 ⟨b, rfl, hp, hb⟩
  go_wp2
  go_ret
  exact ⟨b, rfl, hp, hb⟩

set_option maxRecDepth 10000 in
set_option maxHeartbeats 1000000 in
theorem ty_51 (a : Nat) (w : World) :
    Calls Tryz.prog 106 #[.int .u16 51, .pointer (some ⟨a, 0, none⟩)] w fun e w' => ∃ b, e = .returned (.iface 344 (.pointer (some ⟨b, 0, none⟩))) ∧ PtrC w' b 5 a ∧ Below w.heap.size w w' := by
  go_enter Tryz.func106, Tryz.ntmps106
  go_wp2
  go_ret
  exact ⟨_, rfl, ptr5 (blk_new' _ _ _ _ (by simp)), by repeat (first | exact Below.refl _ _ | refine Below.alloc ?_ (by simp <;> omega) _)⟩
theorem tyd_51 (a : Nat) (w : World) :
    Calls Tryz.prog 55 #[.int .u16 51, .pointer (some ⟨a, 0, none⟩)] w fun e w' => ∃ b, e = .returned (.iface 344 (.pointer (some ⟨b, 0, none⟩))) ∧ PtrC w' b 5 a ∧ Below w.heap.size w w' := by
  go_enter Tryz.func55, Tryz.ntmps55
  go_wp2_with fail
  refine (ty_51 a _).mono ?_
  rintro e w1 ⟨b, rfl, hp, hb⟩
  go_wp2
  go_ret
  exact ⟨b, rfl, hp, hb⟩

set_option maxRecDepth 10000 in
set_option maxHeartbeats 1000000 in
theorem ty_52 (a : Nat) (w : World) :
    Calls Tryz.prog 106 #[.int .u16 52, .pointer (some ⟨a, 0, none⟩)] w fun e w' => ∃ b, e = .returned (.iface 347 (.pointer (some ⟨b, 0, none⟩))) ∧ PtrC w' b 4 a ∧ Below w.heap.size w w' := by
  go_enter Tryz.func106, Tryz.ntmps106
  go_wp2
  go_ret
  exact ⟨_, rfl, ptr4 (blk_new' _ _ _ _ (by simp)), by repeat (first | exact Below.refl _ _ | refine Below.alloc ?_ (by simp <;> omega) _)⟩
theorem tyd_52 (a : Nat) (w : World) :
    Calls Tryz.prog 55 #[.int .u16 52, .pointer (some ⟨a, 0, none⟩)] w fun e w' => ∃ b, e = .returned (.iface 347 (.pointer (some ⟨b, 0, none⟩))) ∧ PtrC w' b 4 a ∧ Below w.heap.size w w' := by
  go_enter Tryz.func55, Tryz.ntmps55
  go_wp2_with fail
  refine (ty_52 a _).mono ?_
  rintro e w1 ⟨b, rfl, hp, hb⟩
  go_wp2
  go_ret
  exact ⟨b, rfl, hp, hb⟩

set_option maxRecDepth 10000 in
set_option maxHeartbeats 1000000 in
theorem ty_53 (a : Nat) (w : World) :
    Calls Tryz.prog 106 #[.int .u16 53, .pointer (some ⟨a, 0, none⟩)] w fun e w' => ∃ b, e = .returned (.iface 350 (.pointer (some ⟨b, 0, none⟩))) ∧ PtrC w' b 5 a ∧ Below w.heap.size w w' := by
  go_enter Tryz.func106, Tryz.ntmps106
  go_wp2
  go_ret
  exact ⟨_, rfl, ptr5 (blk_new' _ _ _ _ (by simp)), by repeat (first | exact Below.refl _ _ | refine Below.alloc ?_ (by simp <;> omega) _)⟩
theorem tyd_53 (a : Nat) (w : World) :
    Calls Tryz.prog 55 #[.int .u16 53, .pointer (some ⟨a, 0, none⟩)] w fun e w' => ∃ b, e = .returned (.iface 350 (.pointer (some ⟨b, 0, none⟩))) ∧ PtrC w' b 5 a ∧ Below w.heap.size w w' := by
  go_enter Tryz.func55, Tryz.ntmps55
  go_wp2_with fail
  refine (ty_53 a _).mono ?_
  rintro e w1 ⟨b, rfl, hp, hb⟩
  go_wp2
  go_ret
  exact ⟨b, rfl, hp, hb⟩

set_option maxRecDepth 10000 in
set_option maxHeartbeats 1000000 in
theorem ty_54 (a : Nat) (w : World) :
    Calls Tryz.prog 106 #[.int .u16 54, .pointer (some ⟨a, 0, none⟩)] w fun e w' => ∃ b, e = .returned (.iface 353 (.pointer (some ⟨b, 0, none⟩))) ∧ PtrC w' b 5 a ∧ Below w.heap.size w w' := by
  go_enter Tryz.func106, Tryz.ntmps106
  go_wp2
  go_ret
  exact ⟨_, rfl, ptr5 (blk_new' _ _ _ _ (by simp)), by repeat (first | exact Below.refl _ _ | refine Below.alloc ?_ (by simp <;> omega) _)⟩
theorem tyd_54 (a : Nat) (w : World) :
    Calls Tryz.prog 55 #[.int .u16 54, .pointer (some ⟨a, 0, none⟩)] w fun e w' => ∃ b, e = .returned (.iface 353 (.pointer (some ⟨b, 0, none⟩))) ∧ PtrC w' b 5 a ∧ Below w.heap.size w w' := by
  go_enter Tryz.func55, Tryz.ntmps55
  go_wp2_with fail
  refine (ty_54 a _).mono ?_
  rintro e w1 ⟨b, rfl, hp, hb⟩
  go_wp2
  go_ret
  exact ⟨b, rfl, hp, hb⟩

set_option maxRecDepth 10000 in
set_option maxHeartbeats 1000000 in
theorem ty_55 (a : Nat) (w : World) :
    Calls Tryz.prog 106 #[.int .u16 55, .pointer (some ⟨a, 0, none⟩)] w fun e w' => ∃ b, e = .returned (.iface 356 (.pointer (some ⟨b, 0, none⟩))) ∧ PtrC w' b 6 a ∧ Below w.heap.size w w' := by
  go_enter Tryz.func106, Tryz.ntmps106
  go_wp2
  go_ret
  exact ⟨_, rfl, ptr6 (blk_new' _ _ _ _ (by simp)), by repeat (first | exact Below.refl _ _ | refine Below.alloc ?_ (by simp <;> omega) _)⟩
theorem tyd_55 (a : Nat) (w : World) :
    Calls Tryz.prog 55 #[.int .u16 55, .pointer (some ⟨a, 0, none⟩)] w fun e w' => ∃ b, e = .returned (.iface 356 (.pointer (some ⟨b, 0, none⟩))) ∧ PtrC w' b 6 a ∧ Below w.heap.size w w' := by
  go_enter Tryz.func55, Tryz.ntmps55
  go_wp2_with fail
  refine (ty_55 a _).mono ?_
  rintro e w1 ⟨b, rfl, hp, hb⟩
  go_wp2
  go_ret
  exact ⟨b, rfl, hp, hb⟩

set_option maxRecDepth 10000 in
set_option maxHeartbeats 1000000 in
theorem ty_56 (a : Nat) (w : World) :
    Calls Tryz.prog 106 #[.int .u16 56, .pointer (some ⟨a, 0, none⟩)] w fun e w' => ∃ b, e = .returned (.iface 359 (.pointer (some ⟨b, 0, none⟩))) ∧ PtrC w' b 4 a ∧ Below w.heap.size w w' := by
  go_enter Tryz.func106, Tryz.ntmps106
  go_wp2
  go_ret
  exact ⟨_, rfl, ptr4 (blk_new' _ _ _ _ (by simp)), by repeat (first | exact Below.refl _ _ | refine Below.alloc ?_ (by simp <;> omega) _)⟩
theorem tyd_56 (a : Nat) (w : World) :
    Calls Tryz.prog 55 #[.int .u16 56, .pointer (some ⟨a, 0, none⟩)] w fun e w' => ∃ b, e = .returned (.iface 359 (.pointer (some ⟨b, 0, none⟩))) ∧ PtrC w' b 4 a ∧ Below w.heap.size w w' := by
  go_enter Tryz.func55, Tryz.ntmps55
  go_wp2_with fail
  refine (ty_56 a _).mono ?_
  rintro e w1 ⟨b, rfl, hp, hb⟩
  go_wp2
  go_ret
  exact ⟨b, rfl, hp, hb⟩

set_option maxRecDepth 10000 in
set_option maxHeartbeats 1000000 in
theorem ty_57 (a : Nat) (w : World) :
    Calls Tryz.prog 106 #[.int .u16 57, .pointer (some ⟨a, 0, none⟩)] w fun e w' => ∃ b, e = .returned (.iface 362 (.pointer (some ⟨b, 0, none⟩))) ∧ PtrC w' b 5 a ∧ Below w.heap.size w w' := by
  go_enter Tryz.func106, Tryz.ntmps106
  go_wp2
  go_ret
  exact ⟨_, rfl, ptr5 (blk_new' _ _ _ _ (by simp)), by repeat (first | exact Below.refl _ _ | refine Below.alloc ?_ (by simp <;> omega) _)⟩
theorem tyd_57 (a : Nat) (w : World) :
    Calls Tryz.prog 55 #[.int .u16 57, .pointer (some ⟨a, 0, none⟩)] w fun e w' => ∃ b, e = .returned (.iface 362 (.pointer (some ⟨b, 0, none⟩))) ∧ PtrC w' b 5 a ∧ Below w.heap.size w w' := by
  go_enter Tryz.func55, Tryz.ntmps55
  go_wp2_with fail
  refine (ty_57 a _).mono ?_
  rintro e w1 ⟨b, rfl, hp, hb⟩
  go_wp2
  go_ret
  exact ⟨b, rfl, hp, hb⟩

set_option maxRecDepth 10000 in
set_option maxHeartbeats 1000000 in
theorem ty_58 (a : Nat) (w : World) :
    Calls Tryz.prog 106 #[.int .u16 58, .pointer (some ⟨a, 0, none⟩)] w fun e w' => ∃ b, e = .returned (.iface 365 (.pointer (some ⟨b, 0, none⟩))) ∧ PtrC w' b 5 a ∧ Below w.heap.size w w' := by
  go_enter Tryz.func106, Tryz.ntmps106
  go_wp2
  go_ret
  exact ⟨_, rfl, ptr5 (blk_new' _ _ _ _ (by simp)), by repeat (first | exact Below.refl _ _ | refine Below.alloc ?_ (by simp <;> omega) _)⟩
theorem tyd_58 (a : Nat) (w : World) :
    Calls Tryz.prog 55 #[.int .u16 58, .pointer (some ⟨a, 0, none⟩)] w fun e w' => ∃ b, e = .returned (.iface 365 (.pointer (some ⟨b, 0, none⟩))) ∧ PtrC w' b 5 a ∧ Below w.heap.size w w' := by
  go_enter Tryz.func55, Tryz.ntmps55
  go_wp2_with fail
  refine (ty_58 a _).mono ?_
  rintro e w1 ⟨b, rfl, hp, hb⟩
  go_wp2
  go_ret
  exact ⟨b, rfl, hp, hb⟩

set_option maxRecDepth 10000 in
set_option maxHeartbeats 1000000 in
theorem ty_59 (a : Nat) (w : World) :
    Calls Tryz.prog 106 #[.int .u16 59, .pointer (some ⟨a, 0, none⟩)] w fun e w' => ∃ b, e = .returned (.iface 368 (.pointer (some ⟨b, 0, none⟩))) ∧ PtrC w' b 6 a ∧ Below w.heap.size w w' := by
  go_enter Tryz.func106, Tryz.ntmps106
  go_wp2
  go_ret
  exact ⟨_, rfl, ptr6 (blk_new' _ _ _ _ (by simp)), by repeat (first | exact Below.refl _ _ | refine Below.alloc ?_ (by simp <;> omega) _)⟩
theorem tyd_59 (a : Nat) (w : World) :
    Calls Tryz.prog 55 #[.int .u16 59, .pointer (some ⟨a, 0, none⟩)] w fun e w' => ∃ b, e = .returned (.iface 368 (.pointer (some ⟨b, 0, none⟩))) ∧ PtrC w' b 6 a ∧ Below w.heap.size w w' := by
  go_enter Tryz.func55, Tryz.ntmps55
  go_wp2_with fail
  refine (ty_59 a _).mono ?_
  rintro e w1 ⟨b, rfl, hp, hb⟩
  go_wp2
  go_ret
  exact ⟨b, rfl, hp, hb⟩

set_option maxRecDepth 10000 in
set_option maxHeartbeats 1000000 in
theorem ty_60 (a : Nat) (w : World) :
    Calls Tryz.prog 106 #[.int .u16 60, .pointer (some ⟨a, 0, none⟩)] w fun e w' => ∃ b, e = .returned (.iface 371 (.pointer (some ⟨b, 0, none⟩))) ∧ PtrC w' b 5 a ∧ Below w.heap.size w w' := by
  go_enter Tryz.func106, Tryz.ntmps106
  go_wp2
  go_ret
  exact ⟨_, rfl, ptr5 (blk_new' _ _ _ _ (by simp)), by repeat (first | exact Below.refl _ _ | refine Below.alloc ?_ (by simp <;> omega) _)⟩
theorem tyd_60 (a : Nat) (w : World) :
    Calls Tryz.prog 55 #[.int .u16 60, .pointer (some ⟨a, 0, none⟩)] w fun e w' => ∃ b, e = .returned (.iface 371 (.pointer (some ⟨b, 0, none⟩))) ∧ PtrC w' b 5 a ∧ Below w.heap.size w w' := by
  go_enter Tryz.func55, Tryz.ntmps55
  go_wp2_with fail
  refine (ty_60 a _).mono ?_
  rintro e w1 ⟨b, rfl, hp, hb⟩
  go_wp2
  go_ret
  exact ⟨b, rfl, hp, hb⟩

set_option maxRecDepth 10000 in
set_option maxHeartbeats 1000000 in
theorem ty_61 (a : Nat) (w : World) :
    Calls Tryz.prog 106 #[.int .u16 61, .pointer (some ⟨a, 0, none⟩)] w fun e w' => ∃ b, e = .returned (.iface 374 (.pointer (some ⟨b, 0, none⟩))) ∧ PtrC w' b 6 a ∧ Below w.heap.size w w' := by
  go_enter Tryz.func106, Tryz.ntmps106
  go_wp2
  go_ret
  exact ⟨_, rfl, ptr6 (blk_new' _ _ _ _ (by simp)), by repeat (first | exact Below.refl _ _ | refine Below.alloc ?_ (by simp <;> omega) _)⟩
theorem tyd_61 (a : Nat) (w : World) :
    Calls Tryz.prog 55 #[.int .u16 61, .pointer (some ⟨a, 0, none⟩)] w fun e w' => ∃ b, e = .returned (.iface 374 (.pointer (some ⟨b, 0, none⟩))) ∧ PtrC w' b 6 a ∧ Below w.heap.size w w' := by
  go_enter Tryz.func55, Tryz.ntmps55
  go_wp2_with fail
  refine (ty_61 a _).mono ?_
  rintro e w1 ⟨b, rfl, hp, hb⟩
  go_wp2
  go_ret
  exact ⟨b, rfl, hp, hb⟩

set_option maxRecDepth 10000 in
set_option maxHeartbeats 1000000 in
theorem ty_62 (a : Nat) (w : World) :
    Calls Tryz.prog 106 #[.int .u16 62, .pointer (some ⟨a, 0, none⟩)] w fun e w' => ∃ b, e = .returned (.iface 377 (.pointer (some ⟨b, 0, none⟩))) ∧ PtrC w' b 6 a ∧ Below w.heap.size w w' := by
  go_enter Tryz.func106, Tryz.ntmps106
  go_wp2
  go_ret
  exact ⟨_, rfl, ptr6 (blk_new' _ _ _ _ (by simp)), by repeat (first | exact Below.refl _ _ | refine Below.alloc ?_ (by simp <;> omega) _)⟩
theorem tyd_62 (a : Nat) (w : World) :
    Calls Tryz.prog 55 #[.int .u16 62, .pointer (some ⟨a, 0, none⟩)] w fun e w' => ∃ b, e = .returned (.iface 377 (.pointer (some ⟨b, 0, none⟩))) ∧ PtrC w' b 6 a ∧ Below w.heap.size w w' := by
  go_enter Tryz.func55, Tryz.ntmps55
  go_wp2_with fail
  refine (ty_62 a _).mono ?_
  rintro e w1 ⟨b, rfl, hp, hb⟩
  go_wp2
  go_ret
  exact ⟨b, rfl, hp, hb⟩

set_option maxRecDepth 10000 in
set_option maxHeartbeats 1000000 in
theorem ty_63 (a : Nat) (w : World) :
    Calls Tryz.prog 106 #[.int .u16 63, .pointer (some ⟨a, 0, none⟩)] w fun e w' => ∃ b, e = .returned (.iface 380 (.pointer (some ⟨b, 0, none⟩))) ∧ PtrC w' b 7 a ∧ Below w.heap.size w w' := by
  go_enter Tryz.func106, Tryz.ntmps106
  go_wp2
  go_ret
  exact ⟨_, rfl, ptr7 (blk_new' _ _ _ _ (by simp)), by repeat (first | exact Below.refl _ _ | refine Below.alloc ?_ (by simp <;> omega) _)⟩
theorem tyd_63 (a : Nat) (w : World) :
    Calls Tryz.prog 55 #[.int .u16 63, .pointer (some ⟨a, 0, none⟩)] w fun e w' => ∃ b, e = .returned (.iface 380 (.pointer (some ⟨b, 0, none⟩))) ∧ PtrC w' b 7 a ∧ Below w.heap.size w w' := by
  go_enter Tryz.func55, Tryz.ntmps55
  go_wp2_with fail
  refine (ty_63 a _).mono ?_
  rintro e w1 ⟨b, rfl, hp, hb⟩
  go_wp2
  go_ret
  exact ⟨b, rfl, hp, hb⟩

end Go.Proofs.YtbnbfgkcndomaabGreatDoor
