/-
  The types of wrappers, made by a switch: those that do not hold.
-/
import Derived.Test.YtbnbfgkcndomaabGreatDoorVU
namespace Go.Proofs.YtbnbfgkcndomaabGreatDoor
open Go.RowKit


set_option maxHeartbeats 1000000 in
theorem ty_0 (a : Nat) (w : World) :
    Calls Tryz.prog 107 #[.int .u16 0, .pointer (some ⟨a, 0, none⟩)] w fun e w' => ∃ b, e = .returned (.iface 383 (.pointer (some ⟨b, 0, none⟩))) ∧ PtrC w' b 1 a ∧ Below w.heap.size w w' := by
  go_enter Tryz.func107, Tryz.ntmps107
  go_wp2
  go_ret
  exact ⟨_, rfl, ptr1 (blk_new' _ _ _ _ (by simp)), by repeat (first | exact Below.refl _ _ | refine Below.alloc ?_ (by simp <;> omega) _)⟩
theorem tyd_0 (a : Nat) (w : World) :
    Calls Tryz.prog 55 #[.int .u16 0, .pointer (some ⟨a, 0, none⟩)] w fun e w' => ∃ b, e = .returned (.iface 383 (.pointer (some ⟨b, 0, none⟩))) ∧ PtrC w' b 1 a ∧ Below w.heap.size w w' := by
  go_enter Tryz.func55, Tryz.ntmps55
  go_wp2_with fail
  refine (ty_0 a _).mono ?_
  rintro e w1 ⟨b, rfl, hp, hb⟩
  go_wp2
  go_ret
  exact ⟨b, rfl, hp, hb⟩

set_option maxHeartbeats 1000000 in
theorem ty_1 (a : Nat) (w : World) :
    Calls Tryz.prog 107 #[.int .u16 1, .pointer (some ⟨a, 0, none⟩)] w fun e w' => ∃ b, e = .returned (.iface 386 (.pointer (some ⟨b, 0, none⟩))) ∧ PtrC w' b 2 a ∧ Below w.heap.size w w' := by
  go_enter Tryz.func107, Tryz.ntmps107
  go_wp2
  go_ret
  exact ⟨_, rfl, ptr2 (blk_new' _ _ _ _ (by simp)), by repeat (first | exact Below.refl _ _ | refine Below.alloc ?_ (by simp <;> omega) _)⟩
theorem tyd_1 (a : Nat) (w : World) :
    Calls Tryz.prog 55 #[.int .u16 1, .pointer (some ⟨a, 0, none⟩)] w fun e w' => ∃ b, e = .returned (.iface 386 (.pointer (some ⟨b, 0, none⟩))) ∧ PtrC w' b 2 a ∧ Below w.heap.size w w' := by
  go_enter Tryz.func55, Tryz.ntmps55
  go_wp2_with fail
  refine (ty_1 a _).mono ?_
  rintro e w1 ⟨b, rfl, hp, hb⟩
  go_wp2
  go_ret
  exact ⟨b, rfl, hp, hb⟩

set_option maxHeartbeats 1000000 in
theorem ty_2 (a : Nat) (w : World) :
    Calls Tryz.prog 107 #[.int .u16 2, .pointer (some ⟨a, 0, none⟩)] w fun e w' => ∃ b, e = .returned (.iface 389 (.pointer (some ⟨b, 0, none⟩))) ∧ PtrC w' b 2 a ∧ Below w.heap.size w w' := by
  go_enter Tryz.func107, Tryz.ntmps107
  go_wp2
  go_ret
  exact ⟨_, rfl, ptr2 (blk_new' _ _ _ _ (by simp)), by repeat (first | exact Below.refl _ _ | refine Below.alloc ?_ (by simp <;> omega) _)⟩
theorem tyd_2 (a : Nat) (w : World) :
    Calls Tryz.prog 55 #[.int .u16 2, .pointer (some ⟨a, 0, none⟩)] w fun e w' => ∃ b, e = .returned (.iface 389 (.pointer (some ⟨b, 0, none⟩))) ∧ PtrC w' b 2 a ∧ Below w.heap.size w w' := by
  go_enter Tryz.func55, Tryz.ntmps55
  go_wp2_with fail
  refine (ty_2 a _).mono ?_
  rintro e w1 ⟨b, rfl, hp, hb⟩
  go_wp2
  go_ret
  exact ⟨b, rfl, hp, hb⟩

set_option maxHeartbeats 1000000 in
theorem ty_3 (a : Nat) (w : World) :
    Calls Tryz.prog 107 #[.int .u16 3, .pointer (some ⟨a, 0, none⟩)] w fun e w' => ∃ b, e = .returned (.iface 392 (.pointer (some ⟨b, 0, none⟩))) ∧ PtrC w' b 3 a ∧ Below w.heap.size w w' := by
  go_enter Tryz.func107, Tryz.ntmps107
  go_wp2
  go_ret
  exact ⟨_, rfl, ptr3 (blk_new' _ _ _ _ (by simp)), by repeat (first | exact Below.refl _ _ | refine Below.alloc ?_ (by simp <;> omega) _)⟩
theorem tyd_3 (a : Nat) (w : World) :
    Calls Tryz.prog 55 #[.int .u16 3, .pointer (some ⟨a, 0, none⟩)] w fun e w' => ∃ b, e = .returned (.iface 392 (.pointer (some ⟨b, 0, none⟩))) ∧ PtrC w' b 3 a ∧ Below w.heap.size w w' := by
  go_enter Tryz.func55, Tryz.ntmps55
  go_wp2_with fail
  refine (ty_3 a _).mono ?_
  rintro e w1 ⟨b, rfl, hp, hb⟩
  go_wp2
  go_ret
  exact ⟨b, rfl, hp, hb⟩

set_option maxHeartbeats 1000000 in
theorem ty_4 (a : Nat) (w : World) :
    Calls Tryz.prog 107 #[.int .u16 4, .pointer (some ⟨a, 0, none⟩)] w fun e w' => ∃ b, e = .returned (.iface 395 (.pointer (some ⟨b, 0, none⟩))) ∧ PtrC w' b 2 a ∧ Below w.heap.size w w' := by
  go_enter Tryz.func107, Tryz.ntmps107
  go_wp2
  go_ret
  exact ⟨_, rfl, ptr2 (blk_new' _ _ _ _ (by simp)), by repeat (first | exact Below.refl _ _ | refine Below.alloc ?_ (by simp <;> omega) _)⟩
theorem tyd_4 (a : Nat) (w : World) :
    Calls Tryz.prog 55 #[.int .u16 4, .pointer (some ⟨a, 0, none⟩)] w fun e w' => ∃ b, e = .returned (.iface 395 (.pointer (some ⟨b, 0, none⟩))) ∧ PtrC w' b 2 a ∧ Below w.heap.size w w' := by
  go_enter Tryz.func55, Tryz.ntmps55
  go_wp2_with fail
  refine (ty_4 a _).mono ?_
  rintro e w1 ⟨b, rfl, hp, hb⟩
  go_wp2
  go_ret
  exact ⟨b, rfl, hp, hb⟩

set_option maxHeartbeats 1000000 in
theorem ty_5 (a : Nat) (w : World) :
    Calls Tryz.prog 107 #[.int .u16 5, .pointer (some ⟨a, 0, none⟩)] w fun e w' => ∃ b, e = .returned (.iface 398 (.pointer (some ⟨b, 0, none⟩))) ∧ PtrC w' b 3 a ∧ Below w.heap.size w w' := by
  go_enter Tryz.func107, Tryz.ntmps107
  go_wp2
  go_ret
  exact ⟨_, rfl, ptr3 (blk_new' _ _ _ _ (by simp)), by repeat (first | exact Below.refl _ _ | refine Below.alloc ?_ (by simp <;> omega) _)⟩
theorem tyd_5 (a : Nat) (w : World) :
    Calls Tryz.prog 55 #[.int .u16 5, .pointer (some ⟨a, 0, none⟩)] w fun e w' => ∃ b, e = .returned (.iface 398 (.pointer (some ⟨b, 0, none⟩))) ∧ PtrC w' b 3 a ∧ Below w.heap.size w w' := by
  go_enter Tryz.func55, Tryz.ntmps55
  go_wp2_with fail
  refine (ty_5 a _).mono ?_
  rintro e w1 ⟨b, rfl, hp, hb⟩
  go_wp2
  go_ret
  exact ⟨b, rfl, hp, hb⟩

set_option maxHeartbeats 1000000 in
theorem ty_6 (a : Nat) (w : World) :
    Calls Tryz.prog 107 #[.int .u16 6, .pointer (some ⟨a, 0, none⟩)] w fun e w' => ∃ b, e = .returned (.iface 401 (.pointer (some ⟨b, 0, none⟩))) ∧ PtrC w' b 3 a ∧ Below w.heap.size w w' := by
  go_enter Tryz.func107, Tryz.ntmps107
  go_wp2
  go_ret
  exact ⟨_, rfl, ptr3 (blk_new' _ _ _ _ (by simp)), by repeat (first | exact Below.refl _ _ | refine Below.alloc ?_ (by simp <;> omega) _)⟩
theorem tyd_6 (a : Nat) (w : World) :
    Calls Tryz.prog 55 #[.int .u16 6, .pointer (some ⟨a, 0, none⟩)] w fun e w' => ∃ b, e = .returned (.iface 401 (.pointer (some ⟨b, 0, none⟩))) ∧ PtrC w' b 3 a ∧ Below w.heap.size w w' := by
  go_enter Tryz.func55, Tryz.ntmps55
  go_wp2_with fail
  refine (ty_6 a _).mono ?_
  rintro e w1 ⟨b, rfl, hp, hb⟩
  go_wp2
  go_ret
  exact ⟨b, rfl, hp, hb⟩

set_option maxHeartbeats 1000000 in
theorem ty_7 (a : Nat) (w : World) :
    Calls Tryz.prog 107 #[.int .u16 7, .pointer (some ⟨a, 0, none⟩)] w fun e w' => ∃ b, e = .returned (.iface 404 (.pointer (some ⟨b, 0, none⟩))) ∧ PtrC w' b 4 a ∧ Below w.heap.size w w' := by
  go_enter Tryz.func107, Tryz.ntmps107
  go_wp2
  go_ret
  exact ⟨_, rfl, ptr4 (blk_new' _ _ _ _ (by simp)), by repeat (first | exact Below.refl _ _ | refine Below.alloc ?_ (by simp <;> omega) _)⟩
theorem tyd_7 (a : Nat) (w : World) :
    Calls Tryz.prog 55 #[.int .u16 7, .pointer (some ⟨a, 0, none⟩)] w fun e w' => ∃ b, e = .returned (.iface 404 (.pointer (some ⟨b, 0, none⟩))) ∧ PtrC w' b 4 a ∧ Below w.heap.size w w' := by
  go_enter Tryz.func55, Tryz.ntmps55
  go_wp2_with fail
  refine (ty_7 a _).mono ?_
  rintro e w1 ⟨b, rfl, hp, hb⟩
  go_wp2
  go_ret
  exact ⟨b, rfl, hp, hb⟩

set_option maxHeartbeats 1000000 in
theorem ty_8 (a : Nat) (w : World) :
    Calls Tryz.prog 107 #[.int .u16 8, .pointer (some ⟨a, 0, none⟩)] w fun e w' => ∃ b, e = .returned (.iface 407 (.pointer (some ⟨b, 0, none⟩))) ∧ PtrC w' b 2 a ∧ Below w.heap.size w w' := by
  go_enter Tryz.func107, Tryz.ntmps107
  go_wp2
  go_ret
  exact ⟨_, rfl, ptr2 (blk_new' _ _ _ _ (by simp)), by repeat (first | exact Below.refl _ _ | refine Below.alloc ?_ (by simp <;> omega) _)⟩
theorem tyd_8 (a : Nat) (w : World) :
    Calls Tryz.prog 55 #[.int .u16 8, .pointer (some ⟨a, 0, none⟩)] w fun e w' => ∃ b, e = .returned (.iface 407 (.pointer (some ⟨b, 0, none⟩))) ∧ PtrC w' b 2 a ∧ Below w.heap.size w w' := by
  go_enter Tryz.func55, Tryz.ntmps55
  go_wp2_with fail
  refine (ty_8 a _).mono ?_
  rintro e w1 ⟨b, rfl, hp, hb⟩
  go_wp2
  go_ret
  exact ⟨b, rfl, hp, hb⟩

set_option maxHeartbeats 1000000 in
theorem ty_9 (a : Nat) (w : World) :
    Calls Tryz.prog 107 #[.int .u16 9, .pointer (some ⟨a, 0, none⟩)] w fun e w' => ∃ b, e = .returned (.iface 410 (.pointer (some ⟨b, 0, none⟩))) ∧ PtrC w' b 3 a ∧ Below w.heap.size w w' := by
  go_enter Tryz.func107, Tryz.ntmps107
  go_wp2
  go_ret
  exact ⟨_, rfl, ptr3 (blk_new' _ _ _ _ (by simp)), by repeat (first | exact Below.refl _ _ | refine Below.alloc ?_ (by simp <;> omega) _)⟩
theorem tyd_9 (a : Nat) (w : World) :
    Calls Tryz.prog 55 #[.int .u16 9, .pointer (some ⟨a, 0, none⟩)] w fun e w' => ∃ b, e = .returned (.iface 410 (.pointer (some ⟨b, 0, none⟩))) ∧ PtrC w' b 3 a ∧ Below w.heap.size w w' := by
  go_enter Tryz.func55, Tryz.ntmps55
  go_wp2_with fail
  refine (ty_9 a _).mono ?_
  rintro e w1 ⟨b, rfl, hp, hb⟩
  go_wp2
  go_ret
  exact ⟨b, rfl, hp, hb⟩

set_option maxHeartbeats 1000000 in
theorem ty_10 (a : Nat) (w : World) :
    Calls Tryz.prog 107 #[.int .u16 10, .pointer (some ⟨a, 0, none⟩)] w fun e w' => ∃ b, e = .returned (.iface 413 (.pointer (some ⟨b, 0, none⟩))) ∧ PtrC w' b 3 a ∧ Below w.heap.size w w' := by
  go_enter Tryz.func107, Tryz.ntmps107
  go_wp2
  go_ret
  exact ⟨_, rfl, ptr3 (blk_new' _ _ _ _ (by simp)), by repeat (first | exact Below.refl _ _ | refine Below.alloc ?_ (by simp <;> omega) _)⟩
theorem tyd_10 (a : Nat) (w : World) :
    Calls Tryz.prog 55 #[.int .u16 10, .pointer (some ⟨a, 0, none⟩)] w fun e w' => ∃ b, e = .returned (.iface 413 (.pointer (some ⟨b, 0, none⟩))) ∧ PtrC w' b 3 a ∧ Below w.heap.size w w' := by
  go_enter Tryz.func55, Tryz.ntmps55
  go_wp2_with fail
  refine (ty_10 a _).mono ?_
  rintro e w1 ⟨b, rfl, hp, hb⟩
  go_wp2
  go_ret
  exact ⟨b, rfl, hp, hb⟩

set_option maxHeartbeats 1000000 in
theorem ty_11 (a : Nat) (w : World) :
    Calls Tryz.prog 107 #[.int .u16 11, .pointer (some ⟨a, 0, none⟩)] w fun e w' => ∃ b, e = .returned (.iface 416 (.pointer (some ⟨b, 0, none⟩))) ∧ PtrC w' b 4 a ∧ Below w.heap.size w w' := by
  go_enter Tryz.func107, Tryz.ntmps107
  go_wp2
  go_ret
  exact ⟨_, rfl, ptr4 (blk_new' _ _ _ _ (by simp)), by repeat (first | exact Below.refl _ _ | refine Below.alloc ?_ (by simp <;> omega) _)⟩
theorem tyd_11 (a : Nat) (w : World) :
    Calls Tryz.prog 55 #[.int .u16 11, .pointer (some ⟨a, 0, none⟩)] w fun e w' => ∃ b, e = .returned (.iface 416 (.pointer (some ⟨b, 0, none⟩))) ∧ PtrC w' b 4 a ∧ Below w.heap.size w w' := by
  go_enter Tryz.func55, Tryz.ntmps55
  go_wp2_with fail
  refine (ty_11 a _).mono ?_
  rintro e w1 ⟨b, rfl, hp, hb⟩
  go_wp2
  go_ret
  exact ⟨b, rfl, hp, hb⟩

set_option maxHeartbeats 1000000 in
theorem ty_12 (a : Nat) (w : World) :
    Calls Tryz.prog 107 #[.int .u16 12, .pointer (some ⟨a, 0, none⟩)] w fun e w' => ∃ b, e = .returned (.iface 419 (.pointer (some ⟨b, 0, none⟩))) ∧ PtrC w' b 3 a ∧ Below w.heap.size w w' := by
  go_enter Tryz.func107, Tryz.ntmps107
  go_wp2
  go_ret
  exact ⟨_, rfl, ptr3 (blk_new' _ _ _ _ (by simp)), by repeat (first | exact Below.refl _ _ | refine Below.alloc ?_ (by simp <;> omega) _)⟩
theorem tyd_12 (a : Nat) (w : World) :
    Calls Tryz.prog 55 #[.int .u16 12, .pointer (some ⟨a, 0, none⟩)] w fun e w' => ∃ b, e = .returned (.iface 419 (.pointer (some ⟨b, 0, none⟩))) ∧ PtrC w' b 3 a ∧ Below w.heap.size w w' := by
  go_enter Tryz.func55, Tryz.ntmps55
  go_wp2_with fail
  refine (ty_12 a _).mono ?_
  rintro e w1 ⟨b, rfl, hp, hb⟩
  go_wp2
  go_ret
  exact ⟨b, rfl, hp, hb⟩

set_option maxHeartbeats 1000000 in
theorem ty_13 (a : Nat) (w : World) :
    Calls Tryz.prog 107 #[.int .u16 13, .pointer (some ⟨a, 0, none⟩)] w fun e w' => ∃ b, e = .returned (.iface 422 (.pointer (some ⟨b, 0, none⟩))) ∧ PtrC w' b 4 a ∧ Below w.heap.size w w' := by
  go_enter Tryz.func107, Tryz.ntmps107
  go_wp2
  go_ret
  exact ⟨_, rfl, ptr4 (blk_new' _ _ _ _ (by simp)), by repeat (first | exact Below.refl _ _ | refine Below.alloc ?_ (by simp <;> omega) _)⟩
theorem tyd_13 (a : Nat) (w : World) :
    Calls Tryz.prog 55 #[.int .u16 13, .pointer (some ⟨a, 0, none⟩)] w fun e w' => ∃ b, e = .returned (.iface 422 (.pointer (some ⟨b, 0, none⟩))) ∧ PtrC w' b 4 a ∧ Below w.heap.size w w' := by
  go_enter Tryz.func55, Tryz.ntmps55
  go_wp2_with fail
  refine (ty_13 a _).mono ?_
  rintro e w1 ⟨b, rfl, hp, hb⟩
  go_wp2
  go_ret
  exact ⟨b, rfl, hp, hb⟩

set_option maxHeartbeats 1000000 in
theorem ty_14 (a : Nat) (w : World) :
    Calls Tryz.prog 107 #[.int .u16 14, .pointer (some ⟨a, 0, none⟩)] w fun e w' => ∃ b, e = .returned (.iface 425 (.pointer (some ⟨b, 0, none⟩))) ∧ PtrC w' b 4 a ∧ Below w.heap.size w w' := by
  go_enter Tryz.func107, Tryz.ntmps107
  go_wp2
  go_ret
  exact ⟨_, rfl, ptr4 (blk_new' _ _ _ _ (by simp)), by repeat (first | exact Below.refl _ _ | refine Below.alloc ?_ (by simp <;> omega) _)⟩
theorem tyd_14 (a : Nat) (w : World) :
    Calls Tryz.prog 55 #[.int .u16 14, .pointer (some ⟨a, 0, none⟩)] w fun e w' => ∃ b, e = .returned (.iface 425 (.pointer (some ⟨b, 0, none⟩))) ∧ PtrC w' b 4 a ∧ Below w.heap.size w w' := by
  go_enter Tryz.func55, Tryz.ntmps55
  go_wp2_with fail
  refine (ty_14 a _).mono ?_
  rintro e w1 ⟨b, rfl, hp, hb⟩
  go_wp2
  go_ret
  exact ⟨b, rfl, hp, hb⟩

set_option maxHeartbeats 1000000 in
theorem ty_15 (a : Nat) (w : World) :
    Calls Tryz.prog 107 #[.int .u16 15, .pointer (some ⟨a, 0, none⟩)] w fun e w' => ∃ b, e = .returned (.iface 428 (.pointer (some ⟨b, 0, none⟩))) ∧ PtrC w' b 5 a ∧ Below w.heap.size w w' := by
  go_enter Tryz.func107, Tryz.ntmps107
  go_wp2
  go_ret
  exact ⟨_, rfl, ptr5 (blk_new' _ _ _ _ (by simp)), by repeat (first | exact Below.refl _ _ | refine Below.alloc ?_ (by simp <;> omega) _)⟩
theorem tyd_15 (a : Nat) (w : World) :
    Calls Tryz.prog 55 #[.int .u16 15, .pointer (some ⟨a, 0, none⟩)] w fun e w' => ∃ b, e = .returned (.iface 428 (.pointer (some ⟨b, 0, none⟩))) ∧ PtrC w' b 5 a ∧ Below w.heap.size w w' := by
  go_enter Tryz.func55, Tryz.ntmps55
  go_wp2_with fail
  refine (ty_15 a _).mono ?_
  rintro e w1 ⟨b, rfl, hp, hb⟩
  go_wp2
  go_ret
  exact ⟨b, rfl, hp, hb⟩

end Go.Proofs.YtbnbfgkcndomaabGreatDoor

namespace Go.Proofs.YtbnbfgkcndomaabGreatDoor
open Go.RowKit


set_option maxHeartbeats 1000000 in
theorem ty_16 (a : Nat) (w : World) :
    Calls Tryz.prog 104 #[.int .u16 16, .pointer (some ⟨a, 0, none⟩)] w fun e w' => ∃ b, e = .returned (.iface 238 (.pointer (some ⟨b, 0, none⟩))) ∧ PtrC w' b 2 a ∧ Below w.heap.size w w' := by
  go_enter Tryz.func104, Tryz.ntmps104
  go_wp2
  go_ret
  exact ⟨_, rfl, ptr2 (blk_new' _ _ _ _ (by simp)), by repeat (first | exact Below.refl _ _ | refine Below.alloc ?_ (by simp <;> omega) _)⟩
theorem tyd_16 (a : Nat) (w : World) :
    Calls Tryz.prog 55 #[.int .u16 16, .pointer (some ⟨a, 0, none⟩)] w fun e w' => ∃ b, e = .returned (.iface 238 (.pointer (some ⟨b, 0, none⟩))) ∧ PtrC w' b 2 a ∧ Below w.heap.size w w' := by
  go_enter Tryz.func55, Tryz.ntmps55
  go_wp2_with fail
  refine (ty_16 a _).mono ?_
  rintro e w1 ⟨b, rfl, hp, hb⟩
  go_wp2
  go_ret
  exact ⟨b, rfl, hp, hb⟩

set_option maxHeartbeats 1000000 in
theorem ty_17 (a : Nat) (w : World) :
    Calls Tryz.prog 104 #[.int .u16 17, .pointer (some ⟨a, 0, none⟩)] w fun e w' => ∃ b, e = .returned (.iface 241 (.pointer (some ⟨b, 0, none⟩))) ∧ PtrC w' b 3 a ∧ Below w.heap.size w w' := by
  go_enter Tryz.func104, Tryz.ntmps104
  go_wp2
  go_ret
  exact ⟨_, rfl, ptr3 (blk_new' _ _ _ _ (by simp)), by repeat (first | exact Below.refl _ _ | refine Below.alloc ?_ (by simp <;> omega) _)⟩
theorem tyd_17 (a : Nat) (w : World) :
    Calls Tryz.prog 55 #[.int .u16 17, .pointer (some ⟨a, 0, none⟩)] w fun e w' => ∃ b, e = .returned (.iface 241 (.pointer (some ⟨b, 0, none⟩))) ∧ PtrC w' b 3 a ∧ Below w.heap.size w w' := by
  go_enter Tryz.func55, Tryz.ntmps55
  go_wp2_with fail
  refine (ty_17 a _).mono ?_
  rintro e w1 ⟨b, rfl, hp, hb⟩
  go_wp2
  go_ret
  exact ⟨b, rfl, hp, hb⟩

set_option maxHeartbeats 1000000 in
theorem ty_18 (a : Nat) (w : World) :
    Calls Tryz.prog 104 #[.int .u16 18, .pointer (some ⟨a, 0, none⟩)] w fun e w' => ∃ b, e = .returned (.iface 244 (.pointer (some ⟨b, 0, none⟩))) ∧ PtrC w' b 3 a ∧ Below w.heap.size w w' := by
  go_enter Tryz.func104, Tryz.ntmps104
  go_wp2
  go_ret
  exact ⟨_, rfl, ptr3 (blk_new' _ _ _ _ (by simp)), by repeat (first | exact Below.refl _ _ | refine Below.alloc ?_ (by simp <;> omega) _)⟩
theorem tyd_18 (a : Nat) (w : World) :
    Calls Tryz.prog 55 #[.int .u16 18, .pointer (some ⟨a, 0, none⟩)] w fun e w' => ∃ b, e = .returned (.iface 244 (.pointer (some ⟨b, 0, none⟩))) ∧ PtrC w' b 3 a ∧ Below w.heap.size w w' := by
  go_enter Tryz.func55, Tryz.ntmps55
  go_wp2_with fail
  refine (ty_18 a _).mono ?_
  rintro e w1 ⟨b, rfl, hp, hb⟩
  go_wp2
  go_ret
  exact ⟨b, rfl, hp, hb⟩

set_option maxHeartbeats 1000000 in
theorem ty_19 (a : Nat) (w : World) :
    Calls Tryz.prog 104 #[.int .u16 19, .pointer (some ⟨a, 0, none⟩)] w fun e w' => ∃ b, e = .returned (.iface 247 (.pointer (some ⟨b, 0, none⟩))) ∧ PtrC w' b 4 a ∧ Below w.heap.size w w' := by
  go_enter Tryz.func104, Tryz.ntmps104
  go_wp2
  go_ret
  exact ⟨_, rfl, ptr4 (blk_new' _ _ _ _ (by simp)), by repeat (first | exact Below.refl _ _ | refine Below.alloc ?_ (by simp <;> omega) _)⟩
theorem tyd_19 (a : Nat) (w : World) :
    Calls Tryz.prog 55 #[.int .u16 19, .pointer (some ⟨a, 0, none⟩)] w fun e w' => ∃ b, e = .returned (.iface 247 (.pointer (some ⟨b, 0, none⟩))) ∧ PtrC w' b 4 a ∧ Below w.heap.size w w' := by
  go_enter Tryz.func55, Tryz.ntmps55
  go_wp2_with fail
  refine (ty_19 a _).mono ?_
  rintro e w1 ⟨b, rfl, hp, hb⟩
  go_wp2
  go_ret
  exact ⟨b, rfl, hp, hb⟩

set_option maxHeartbeats 1000000 in
theorem ty_20 (a : Nat) (w : World) :
    Calls Tryz.prog 104 #[.int .u16 20, .pointer (some ⟨a, 0, none⟩)] w fun e w' => ∃ b, e = .returned (.iface 250 (.pointer (some ⟨b, 0, none⟩))) ∧ PtrC w' b 3 a ∧ Below w.heap.size w w' := by
  go_enter Tryz.func104, Tryz.ntmps104
  go_wp2
  go_ret
  exact ⟨_, rfl, ptr3 (blk_new' _ _ _ _ (by simp)), by repeat (first | exact Below.refl _ _ | refine Below.alloc ?_ (by simp <;> omega) _)⟩
theorem tyd_20 (a : Nat) (w : World) :
    Calls Tryz.prog 55 #[.int .u16 20, .pointer (some ⟨a, 0, none⟩)] w fun e w' => ∃ b, e = .returned (.iface 250 (.pointer (some ⟨b, 0, none⟩))) ∧ PtrC w' b 3 a ∧ Below w.heap.size w w' := by
  go_enter Tryz.func55, Tryz.ntmps55
  go_wp2_with fail
  refine (ty_20 a _).mono ?_
  rintro e w1 ⟨b, rfl, hp, hb⟩
  go_wp2
  go_ret
  exact ⟨b, rfl, hp, hb⟩

set_option maxHeartbeats 1000000 in
theorem ty_21 (a : Nat) (w : World) :
    Calls Tryz.prog 104 #[.int .u16 21, .pointer (some ⟨a, 0, none⟩)] w fun e w' => ∃ b, e = .returned (.iface 253 (.pointer (some ⟨b, 0, none⟩))) ∧ PtrC w' b 4 a ∧ Below w.heap.size w w' := by
  go_enter Tryz.func104, Tryz.ntmps104
  go_wp2
  go_ret
  exact ⟨_, rfl, ptr4 (blk_new' _ _ _ _ (by simp)), by repeat (first | exact Below.refl _ _ | refine Below.alloc ?_ (by simp <;> omega) _)⟩
theorem tyd_21 (a : Nat) (w : World) :
    Calls Tryz.prog 55 #[.int .u16 21, .pointer (some ⟨a, 0, none⟩)] w fun e w' => ∃ b, e = .returned (.iface 253 (.pointer (some ⟨b, 0, none⟩))) ∧ PtrC w' b 4 a ∧ Below w.heap.size w w' := by
  go_enter Tryz.func55, Tryz.ntmps55
  go_wp2_with fail
  refine (ty_21 a _).mono ?_
  rintro e w1 ⟨b, rfl, hp, hb⟩
  go_wp2
  go_ret
  exact ⟨b, rfl, hp, hb⟩

set_option maxHeartbeats 1000000 in
theorem ty_22 (a : Nat) (w : World) :
    Calls Tryz.prog 104 #[.int .u16 22, .pointer (some ⟨a, 0, none⟩)] w fun e w' => ∃ b, e = .returned (.iface 256 (.pointer (some ⟨b, 0, none⟩))) ∧ PtrC w' b 4 a ∧ Below w.heap.size w w' := by
  go_enter Tryz.func104, Tryz.ntmps104
  go_wp2
  go_ret
  exact ⟨_, rfl, ptr4 (blk_new' _ _ _ _ (by simp)), by repeat (first | exact Below.refl _ _ | refine Below.alloc ?_ (by simp <;> omega) _)⟩
theorem tyd_22 (a : Nat) (w : World) :
    Calls Tryz.prog 55 #[.int .u16 22, .pointer (some ⟨a, 0, none⟩)] w fun e w' => ∃ b, e = .returned (.iface 256 (.pointer (some ⟨b, 0, none⟩))) ∧ PtrC w' b 4 a ∧ Below w.heap.size w w' := by
  go_enter Tryz.func55, Tryz.ntmps55
  go_wp2_with fail
  refine (ty_22 a _).mono ?_
  rintro e w1 ⟨b, rfl, hp, hb⟩
  go_wp2
  go_ret
  exact ⟨b, rfl, hp, hb⟩

set_option maxHeartbeats 1000000 in
theorem ty_23 (a : Nat) (w : World) :
    Calls Tryz.prog 104 #[.int .u16 23, .pointer (some ⟨a, 0, none⟩)] w fun e w' => ∃ b, e = .returned (.iface 259 (.pointer (some ⟨b, 0, none⟩))) ∧ PtrC w' b 5 a ∧ Below w.heap.size w w' := by
  go_enter Tryz.func104, Tryz.ntmps104
  go_wp2
  go_ret
  exact ⟨_, rfl, ptr5 (blk_new' _ _ _ _ (by simp)), by repeat (first | exact Below.refl _ _ | refine Below.alloc ?_ (by simp <;> omega) _)⟩
theorem tyd_23 (a : Nat) (w : World) :
    Calls Tryz.prog 55 #[.int .u16 23, .pointer (some ⟨a, 0, none⟩)] w fun e w' => ∃ b, e = .returned (.iface 259 (.pointer (some ⟨b, 0, none⟩))) ∧ PtrC w' b 5 a ∧ Below w.heap.size w w' := by
  go_enter Tryz.func55, Tryz.ntmps55
  go_wp2_with fail
  refine (ty_23 a _).mono ?_
  rintro e w1 ⟨b, rfl, hp, hb⟩
  go_wp2
  go_ret
  exact ⟨b, rfl, hp, hb⟩

set_option maxHeartbeats 1000000 in
theorem ty_24 (a : Nat) (w : World) :
    Calls Tryz.prog 104 #[.int .u16 24, .pointer (some ⟨a, 0, none⟩)] w fun e w' => ∃ b, e = .returned (.iface 262 (.pointer (some ⟨b, 0, none⟩))) ∧ PtrC w' b 3 a ∧ Below w.heap.size w w' := by
  go_enter Tryz.func104, Tryz.ntmps104
  go_wp2
  go_ret
  exact ⟨_, rfl, ptr3 (blk_new' _ _ _ _ (by simp)), by repeat (first | exact Below.refl _ _ | refine Below.alloc ?_ (by simp <;> omega) _)⟩
theorem tyd_24 (a : Nat) (w : World) :
    Calls Tryz.prog 55 #[.int .u16 24, .pointer (some ⟨a, 0, none⟩)] w fun e w' => ∃ b, e = .returned (.iface 262 (.pointer (some ⟨b, 0, none⟩))) ∧ PtrC w' b 3 a ∧ Below w.heap.size w w' := by
  go_enter Tryz.func55, Tryz.ntmps55
  go_wp2_with fail
  refine (ty_24 a _).mono ?_
  rintro e w1 ⟨b, rfl, hp, hb⟩
  go_wp2
  go_ret
  exact ⟨b, rfl, hp, hb⟩

set_option maxHeartbeats 1000000 in
theorem ty_25 (a : Nat) (w : World) :
    Calls Tryz.prog 104 #[.int .u16 25, .pointer (some ⟨a, 0, none⟩)] w fun e w' => ∃ b, e = .returned (.iface 265 (.pointer (some ⟨b, 0, none⟩))) ∧ PtrC w' b 4 a ∧ Below w.heap.size w w' := by
  go_enter Tryz.func104, Tryz.ntmps104
  go_wp2
  go_ret
  exact ⟨_, rfl, ptr4 (blk_new' _ _ _ _ (by simp)), by repeat (first | exact Below.refl _ _ | refine Below.alloc ?_ (by simp <;> omega) _)⟩
theorem tyd_25 (a : Nat) (w : World) :
    Calls Tryz.prog 55 #[.int .u16 25, .pointer (some ⟨a, 0, none⟩)] w fun e w' => ∃ b, e = .returned (.iface 265 (.pointer (some ⟨b, 0, none⟩))) ∧ PtrC w' b 4 a ∧ Below w.heap.size w w' := by
  go_enter Tryz.func55, Tryz.ntmps55
  go_wp2_with fail
  refine (ty_25 a _).mono ?_
  rintro e w1 ⟨b, rfl, hp, hb⟩
  go_wp2
  go_ret
  exact ⟨b, rfl, hp, hb⟩

set_option maxHeartbeats 1000000 in
theorem ty_26 (a : Nat) (w : World) :
    Calls Tryz.prog 104 #[.int .u16 26, .pointer (some ⟨a, 0, none⟩)] w fun e w' => ∃ b, e = .returned (.iface 268 (.pointer (some ⟨b, 0, none⟩))) ∧ PtrC w' b 4 a ∧ Below w.heap.size w w' := by
  go_enter Tryz.func104, Tryz.ntmps104
  go_wp2
  go_ret
  exact ⟨_, rfl, ptr4 (blk_new' _ _ _ _ (by simp)), by repeat (first | exact Below.refl _ _ | refine Below.alloc ?_ (by simp <;> omega) _)⟩
theorem tyd_26 (a : Nat) (w : World) :
    Calls Tryz.prog 55 #[.int .u16 26, .pointer (some ⟨a, 0, none⟩)] w fun e w' => ∃ b, e = .returned (.iface 268 (.pointer (some ⟨b, 0, none⟩))) ∧ PtrC w' b 4 a ∧ Below w.heap.size w w' := by
  go_enter Tryz.func55, Tryz.ntmps55
  go_wp2_with fail
  refine (ty_26 a _).mono ?_
  rintro e w1 ⟨b, rfl, hp, hb⟩
  go_wp2
  go_ret
  exact ⟨b, rfl, hp, hb⟩

set_option maxHeartbeats 1000000 in
theorem ty_27 (a : Nat) (w : World) :
    Calls Tryz.prog 104 #[.int .u16 27, .pointer (some ⟨a, 0, none⟩)] w fun e w' => ∃ b, e = .returned (.iface 271 (.pointer (some ⟨b, 0, none⟩))) ∧ PtrC w' b 5 a ∧ Below w.heap.size w w' := by
  go_enter Tryz.func104, Tryz.ntmps104
  go_wp2
  go_ret
  exact ⟨_, rfl, ptr5 (blk_new' _ _ _ _ (by simp)), by repeat (first | exact Below.refl _ _ | refine Below.alloc ?_ (by simp <;> omega) _)⟩
theorem tyd_27 (a : Nat) (w : World) :
    Calls Tryz.prog 55 #[.int .u16 27, .pointer (some ⟨a, 0, none⟩)] w fun e w' => ∃ b, e = .returned (.iface 271 (.pointer (some ⟨b, 0, none⟩))) ∧ PtrC w' b 5 a ∧ Below w.heap.size w w' := by
  go_enter Tryz.func55, Tryz.ntmps55
  go_wp2_with fail
  refine (ty_27 a _).mono ?_
  rintro e w1 ⟨b, rfl, hp, hb⟩
  go_wp2
  go_ret
  exact ⟨b, rfl, hp, hb⟩

set_option maxHeartbeats 1000000 in
theorem ty_28 (a : Nat) (w : World) :
    Calls Tryz.prog 104 #[.int .u16 28, .pointer (some ⟨a, 0, none⟩)] w fun e w' => ∃ b, e = .returned (.iface 274 (.pointer (some ⟨b, 0, none⟩))) ∧ PtrC w' b 4 a ∧ Below w.heap.size w w' := by
  go_enter Tryz.func104, Tryz.ntmps104
  go_wp2
  go_ret
  exact ⟨_, rfl, ptr4 (blk_new' _ _ _ _ (by simp)), by repeat (first | exact Below.refl _ _ | refine Below.alloc ?_ (by simp <;> omega) _)⟩
theorem tyd_28 (a : Nat) (w : World) :
    Calls Tryz.prog 55 #[.int .u16 28, .pointer (some ⟨a, 0, none⟩)] w fun e w' => ∃ b, e = .returned (.iface 274 (.pointer (some ⟨b, 0, none⟩))) ∧ PtrC w' b 4 a ∧ Below w.heap.size w w' := by
  go_enter Tryz.func55, Tryz.ntmps55
  go_wp2_with fail
  refine (ty_28 a _).mono ?_
  rintro e w1 ⟨b, rfl, hp, hb⟩
  go_wp2
  go_ret
  exact ⟨b, rfl, hp, hb⟩

set_option maxHeartbeats 1000000 in
theorem ty_29 (a : Nat) (w : World) :
    Calls Tryz.prog 104 #[.int .u16 29, .pointer (some ⟨a, 0, none⟩)] w fun e w' => ∃ b, e = .returned (.iface 277 (.pointer (some ⟨b, 0, none⟩))) ∧ PtrC w' b 5 a ∧ Below w.heap.size w w' := by
  go_enter Tryz.func104, Tryz.ntmps104
  go_wp2
  go_ret
  exact ⟨_, rfl, ptr5 (blk_new' _ _ _ _ (by simp)), by repeat (first | exact Below.refl _ _ | refine Below.alloc ?_ (by simp <;> omega) _)⟩
theorem tyd_29 (a : Nat) (w : World) :
    Calls Tryz.prog 55 #[.int .u16 29, .pointer (some ⟨a, 0, none⟩)] w fun e w' => ∃ b, e = .returned (.iface 277 (.pointer (some ⟨b, 0, none⟩))) ∧ PtrC w' b 5 a ∧ Below w.heap.size w w' := by
  go_enter Tryz.func55, Tryz.ntmps55
  go_wp2_with fail
  refine (ty_29 a _).mono ?_
  rintro e w1 ⟨b, rfl, hp, hb⟩
  go_wp2
  go_ret
  exact ⟨b, rfl, hp, hb⟩

set_option maxHeartbeats 1000000 in
theorem ty_30 (a : Nat) (w : World) :
    Calls Tryz.prog 104 #[.int .u16 30, .pointer (some ⟨a, 0, none⟩)] w fun e w' => ∃ b, e = .returned (.iface 280 (.pointer (some ⟨b, 0, none⟩))) ∧ PtrC w' b 5 a ∧ Below w.heap.size w w' := by
  go_enter Tryz.func104, Tryz.ntmps104
  go_wp2
  go_ret
  exact ⟨_, rfl, ptr5 (blk_new' _ _ _ _ (by simp)), by repeat (first | exact Below.refl _ _ | refine Below.alloc ?_ (by simp <;> omega) _)⟩
theorem tyd_30 (a : Nat) (w : World) :
    Calls Tryz.prog 55 #[.int .u16 30, .pointer (some ⟨a, 0, none⟩)] w fun e w' => ∃ b, e = .returned (.iface 280 (.pointer (some ⟨b, 0, none⟩))) ∧ PtrC w' b 5 a ∧ Below w.heap.size w w' := by
  go_enter Tryz.func55, Tryz.ntmps55
  go_wp2_with fail
  refine (ty_30 a _).mono ?_
  rintro e w1 ⟨b, rfl, hp, hb⟩
  go_wp2
  go_ret
  exact ⟨b, rfl, hp, hb⟩

set_option maxHeartbeats 1000000 in
theorem ty_31 (a : Nat) (w : World) :
    Calls Tryz.prog 104 #[.int .u16 31, .pointer (some ⟨a, 0, none⟩)] w fun e w' => ∃ b, e = .returned (.iface 283 (.pointer (some ⟨b, 0, none⟩))) ∧ PtrC w' b 6 a ∧ Below w.heap.size w w' := by
  go_enter Tryz.func104, Tryz.ntmps104
  go_wp2
  go_ret
  exact ⟨_, rfl, ptr6 (blk_new' _ _ _ _ (by simp)), by repeat (first | exact Below.refl _ _ | refine Below.alloc ?_ (by simp <;> omega) _)⟩
theorem tyd_31 (a : Nat) (w : World) :
    Calls Tryz.prog 55 #[.int .u16 31, .pointer (some ⟨a, 0, none⟩)] w fun e w' => ∃ b, e = .returned (.iface 283 (.pointer (some ⟨b, 0, none⟩))) ∧ PtrC w' b 6 a ∧ Below w.heap.size w w' := by
  go_enter Tryz.func55, Tryz.ntmps55
  go_wp2_with fail
  refine (ty_31 a _).mono ?_
  rintro e w1 ⟨b, rfl, hp, hb⟩
  go_wp2
  go_ret
  exact ⟨b, rfl, hp, hb⟩

end Go.Proofs.YtbnbfgkcndomaabGreatDoor
