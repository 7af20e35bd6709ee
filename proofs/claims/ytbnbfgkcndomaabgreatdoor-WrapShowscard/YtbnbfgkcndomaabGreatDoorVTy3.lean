/-
  The types of wrappers, made by a switch: typedAcceptingHolding.
-/
import Derived.Test.YtbnbfgkcndomaabGreatDoorVU
namespace Go.Proofs.YtbnbfgkcndomaabGreatDoor
open Go.RowKit


set_option maxRecDepth 10000 in
set_option maxHeartbeats 1000000 in
theorem ty_48 (a : Nat) (w : World) :
    Calls Tryz.prog 106 #[.int .u16 48, .pointer (some ⟨a, 0, none⟩)] w fun e w' => ∃ b, e = .returned (.iface 335 (.pointer (some ⟨b, 0, none⟩))) ∧ PtrC w' b 3 a ∧ Below w.heap.size w w' := by
  go_enter Tryz.func106, Tryz.ntmps106
  go_wp2
  go_ret
  exact ⟨_, rfl, ptr3 (blk_new' _ _ _ _ (by simp)), by repeat (first | exact Below.refl _ _ | refine Below.alloc ?_ (by simp <;> omega) _)⟩
theorem tyd_48 (a : Nat) (w : World) :
    Calls Tryz.prog 55 #[.int .u16 48, .pointer (some ⟨a, 0, none⟩)] w fun e w' => ∃ b, e = .returned (.iface 335 (.pointer (some ⟨b, 0, none⟩))) ∧ PtrC w' b 3 a ∧ Below w.heap.size w w' := by
  go_enter Tryz.func55, Tryz.ntmps55
  go_wp2_with fail
  refine (ty_48 a _).mono ?_
  rintro e w1 ⟨b, rfl, hp, hb⟩
  go_wp2
  go_ret
  exact ⟨b, rfl, hp, hb⟩

set_option maxRecDepth 10000 in
set_option maxHeartbeats 1000000 in
theorem ty_49 (a : Nat) (w : World) :
    Calls Tryz.prog 106 #[.int .u16 49, .pointer (some ⟨a, 0, none⟩)] w fun e w' => ∃ b, e = .returned (.iface 338 (.pointer (some ⟨b, 0, none⟩))) ∧ PtrC w' b 4 a ∧ Below w.heap.size w w' := by
  go_enter Tryz.func106, Tryz.ntmps106
  go_wp2
  go_ret
  exact ⟨_, rfl, ptr4 (blk_new' _ _ _ _ (by simp)), by repeat (first | exact Below.refl _ _ | refine Below.alloc ?_ (by simp <;> omega) _)⟩
theorem tyd_49 (a : Nat) (w : World) :
    Calls Tryz.prog 55 #[.int .u16 49, .pointer (some ⟨a, 0, none⟩)] w fun e w' => ∃ b, e = .returned (.iface 338 (.pointer (some ⟨b, 0, none⟩))) ∧ PtrC w' b 4 a ∧ Below w.heap.size w w' := by
  go_enter Tryz.func55, Tryz.ntmps55
  go_wp2_with fail
  refine (ty_49 a _).mono ?_
  rintro e w1 ⟨b, rfl, hp, hb⟩
  go_wp2
  go_ret
  exact ⟨b, rfl, hp, hb⟩

set_option maxRecDepth 10000 in
set_option maxHeartbeats 1000000 in
theorem ty_50 (a : Nat) (w : World) :
    Calls Tryz.prog 106 #[.int .u16 50, .pointer (some ⟨a, 0, none⟩)] w fun e w' => ∃ b, e = .returned (.iface 341 (.pointer (some ⟨b, 0, none⟩))) ∧ PtrC w' b 4 a ∧ Below w.heap.size w w' := by
  go_enter Tryz.func106, Tryz.ntmps106
  go_wp2
  go_ret
  exact ⟨_, rfl, ptr4 (blk_new' _ _ _ _ (by simp)), by repeat (first | exact Below.refl _ _ | refine Below.alloc ?_ (by simp <;> omega) _)⟩
theorem tyd_50 (a : Nat) (w : World) :
    Calls Tryz.prog 55 #[.int .u16 50, .pointer (some ⟨a, 0, none⟩)] w fun e w' => ∃ b, e = .returned (.iface 341 (.pointer (some ⟨b, 0, none⟩))) ∧ PtrC w' b 4 a ∧ Below w.heap.size w w' := by
  go_enter Tryz.func55, Tryz.ntmps55
  go_wp2_with fail
  refine (ty_50 a _).mono ?_
  rintro e w1 ⟨b, rfl, hp, hb⟩
  go_wp2
  go_ret
  exact ⟨b, rfl, hp, hb⟩

set_option maxRecDepth 10000 in
set_option maxHeartbeats 1000000 in
theorem ty_51 (a : Nat) (w : World) :
    Calls Tryz.prog 106 #[.int .u16 51, .pointer (some ⟨a, 0, none⟩)] w fun e w' => ∃ b, e = .returned (.iface 344 (.pointer (some ⟨b, 0, none⟩))) ∧ PtrC w' b 5 a ∧ Below w.heap.size w w' := by
  go_enter Tryz.func106, Tryz.ntmps106
  go_wp2
  go_ret
  exact ⟨_, rfl, ptr5 (blk_new' _ _ _ _ (by simp)), by repeat (first | exact Below.refl _ _ | refine Below.alloc ?_ (by simp <;> omega) _)⟩
theorem tyd_51 (a : Nat) (w : World) :
    Calls Tryz.prog 55 #[.int .u16 51, .pointer (some ⟨a, 0, none⟩)] w fun e w' => ∃ b, e = .returned (.iface 344 (.pointer (some ⟨b, 0, none⟩))) ∧ PtrC w' b 5 a ∧ Below w.heap.size w w' := by
  go_enter Tryz.func55, Tryz.ntmps55
  go_wp2_with fail
  refine (ty_51 a _).mono ?_
  rintro e w1 ⟨b, rfl, hp, hb⟩
  go_wp2
  go_ret
  exact ⟨b, rfl, hp, hb⟩

set_option maxRecDepth 10000 in
set_option maxHeartbeats 1000000 in
theorem ty_52 (a : Nat) (w : World) :
    Calls Tryz.prog 106 #[.int .u16 52, .pointer (some ⟨a, 0, none⟩)] w fun e w' => ∃ b, e = .returned (.iface 347 (.pointer (some ⟨b, 0, none⟩))) ∧ PtrC w' b 4 a ∧ Below w.heap.size w w' := by
  go_enter Tryz.func106, Tryz.ntmps106
  go_wp2
  go_ret
  exact ⟨_, rfl, ptr4 (blk_new' _ _ _ _ (by simp)), by repeat (first | exact Below.refl _ _ | refine Below.alloc ?_ (by simp <;> omega) _)⟩
theorem tyd_52 (a : Nat) (w : World) :
    Calls Tryz.prog 55 #[.int .u16 52, .pointer (some ⟨a, 0, none⟩)] w fun e w' => ∃ b, e = .returned (.iface 347 (.pointer (some ⟨b, 0, none⟩))) ∧ PtrC w' b 4 a ∧ Below w.heap.size w w' := by
  go_enter Tryz.func55, Tryz.ntmps55
  go_wp2_with fail
  refine (ty_52 a _).mono ?_
  rintro e w1 ⟨b, rfl, hp, hb⟩
  go_wp2
  go_ret
  exact ⟨b, rfl, hp, hb⟩

set_option maxRecDepth 10000 in
set_option maxHeartbeats 1000000 in
theorem ty_53 (a : Nat) (w : World) :
    Calls Tryz.prog 106 #[.int .u16 53, .pointer (some ⟨a, 0, none⟩)] w fun e w' => ∃ b, e = .returned (.iface 350 (.pointer (some ⟨b, 0, none⟩))) ∧ PtrC w' b 5 a ∧ Below w.heap.size w w' := by
  go_enter Tryz.func106, Tryz.ntmps106
  go_wp2
  go_ret
  exact ⟨_, rfl, ptr5 (blk_new' _ _ _ _ (by simp)), by repeat (first | exact Below.refl _ _ | refine Below.alloc ?_ (by simp <;> omega) _)⟩
theorem tyd_53 (a : Nat) (w : World) :
    Calls Tryz.prog 55 #[.int .u16 53, .pointer (some ⟨a, 0, none⟩)] w fun e w' => ∃ b, e = .returned (.iface 350 (.pointer (some ⟨b, 0, none⟩))) ∧ PtrC w' b 5 a ∧ Below w.heap.size w w' := by
  go_enter Tryz.func55, Tryz.ntmps55
  go_wp2_with fail
  refine (ty_53 a _).mono ?_
  rintro e w1 ⟨b, rfl, hp, hb⟩
  go_wp2
  go_ret
  exact ⟨b, rfl, hp, hb⟩

set_option maxRecDepth 10000 in
set_option maxHeartbeats 1000000 in
theorem ty_54 (a : Nat) (w : World) :
    Calls Tryz.prog 106 #[.int .u16 54, .pointer (some ⟨a, 0, none⟩)] w fun e w' => ∃ b, e = .returned (.iface 353 (.pointer (some ⟨b, 0, none⟩))) ∧ PtrC w' b 5 a ∧ Below w.heap.size w w' := by
  go_enter Tryz.func106, Tryz.ntmps106
  go_wp2
  go_ret
  exact ⟨_, rfl, ptr5 (blk_new' _ _ _ _ (by simp)), by repeat (first | exact Below.refl _ _ | refine Below.alloc ?_ (by simp <;> omega) _)⟩
theorem tyd_54 (a : Nat) (w : World) :
    Calls Tryz.prog 55 #[.int .u16 54, .pointer (some ⟨a, 0, none⟩)] w fun e w' => ∃ b, e = .returned (.iface 353 (.pointer (some ⟨b, 0, none⟩))) ∧ PtrC w' b 5 a ∧ Below w.heap.size w w' := by
  go_enter Tryz.func55, Tryz.ntmps55
  go_wp2_with fail
  refine (ty_54 a _).mono ?_
  rintro e w1 ⟨b, rfl, hp, hb⟩
  go_wp2
  go_ret
  exact ⟨b, rfl, hp, hb⟩

set_option maxRecDepth 10000 in
set_option maxHeartbeats 1000000 in
theorem ty_55 (a : Nat) (w : World) :
    Calls Tryz.prog 106 #[.int .u16 55, .pointer (some ⟨a, 0, none⟩)] w fun e w' => ∃ b, e = .returned (.iface 356 (.pointer (some ⟨b, 0, none⟩))) ∧ PtrC w' b 6 a ∧ Below w.heap.size w w' := by
  go_enter Tryz.func106, Tryz.ntmps106
  go_wp2
  go_ret
  exact ⟨_, rfl, ptr6 (blk_new' _ _ _ _ (by simp)), by repeat (first | exact Below.refl _ _ | refine Below.alloc ?_ (by simp <;> omega) _)⟩
theorem tyd_55 (a : Nat) (w : World) :
    Calls Tryz.prog 55 #[.int .u16 55, .pointer (some ⟨a, 0, none⟩)] w fun e w' => ∃ b, e = .returned (.iface 356 (.pointer (some ⟨b, 0, none⟩))) ∧ PtrC w' b 6 a ∧ Below w.heap.size w w' := by
  go_enter Tryz.func55, Tryz.ntmps55
  go_wp2_with fail
  refine (ty_55 a _).mono ?_
  rintro e w1 ⟨b, rfl, hp, hb⟩
  go_wp2
  go_ret
  exact ⟨b, rfl, hp, hb⟩

set_option maxRecDepth 10000 in
set_option maxHeartbeats 1000000 in
theorem ty_56 (a : Nat) (w : World) :
    Calls Tryz.prog 106 #[.int .u16 56, .pointer (some ⟨a, 0, none⟩)] w fun e w' => ∃ b, e = .returned (.iface 359 (.pointer (some ⟨b, 0, none⟩))) ∧ PtrC w' b 4 a ∧ Below w.heap.size w w' := by
  go_enter Tryz.func106, Tryz.ntmps106
  go_wp2
  go_ret
  exact ⟨_, rfl, ptr4 (blk_new' _ _ _ _ (by simp)), by repeat (first | exact Below.refl _ _ | refine Below.alloc ?_ (by simp <;> omega) _)⟩
theorem tyd_56 (a : Nat) (w : World) :
    Calls Tryz.prog 55 #[.int .u16 56, .pointer (some ⟨a, 0, none⟩)] w fun e w' => ∃ b, e = .returned (.iface 359 (.pointer (some ⟨b, 0, none⟩))) ∧ PtrC w' b 4 a ∧ Below w.heap.size w w' := by
  go_enter Tryz.func55, Tryz.ntmps55
  go_wp2_with fail
  refine (ty_56 a _).mono ?_
  rintro e w1 ⟨b, rfl, hp, hb⟩
  go_wp2
  go_ret
  exact ⟨b, rfl, hp, hb⟩

set_option maxRecDepth 10000 in
set_option maxHeartbeats 1000000 in
theorem ty_57 (a : Nat) (w : World) :
    Calls Tryz.prog 106 #[.int .u16 57, .pointer (some ⟨a, 0, none⟩)] w fun e w' => ∃ b, e = .returned (.iface 362 (.pointer (some ⟨b, 0, none⟩))) ∧ PtrC w' b 5 a ∧ Below w.heap.size w w' := by
  go_enter Tryz.func106, Tryz.ntmps106
  go_wp2
  go_ret
  exact ⟨_, rfl, ptr5 (blk_new' _ _ _ _ (by simp)), by repeat (first | exact Below.refl _ _ | refine Below.alloc ?_ (by simp <;> omega) _)⟩
theorem tyd_57 (a : Nat) (w : World) :
    Calls Tryz.prog 55 #[.int .u16 57, .pointer (some ⟨a, 0, none⟩)] w fun e w' => ∃ b, e = .returned (.iface 362 (.pointer (some ⟨b, 0, none⟩))) ∧ PtrC w' b 5 a ∧ Below w.heap.size w w' := by
  go_enter Tryz.func55, Tryz.ntmps55
  go_wp2_with fail
  refine (ty_57 a _).mono ?_
  rintro e w1 ⟨b, rfl, hp, hb⟩
  go_wp2
  go_ret
  exact ⟨b, rfl, hp, hb⟩

set_option maxRecDepth 10000 in
set_option maxHeartbeats 1000000 in
theorem ty_58 (a : Nat) (w : World) :
    Calls Tryz.prog 106 #[.int .u16 58, .pointer (some ⟨a, 0, none⟩)] w fun e w' => ∃ b, e = .returned (.iface 365 (.pointer (some ⟨b, 0, none⟩))) ∧ PtrC w' b 5 a ∧ Below w.heap.size w w' := by
  go_enter Tryz.func106, Tryz.ntmps106
  go_wp2
  go_ret
  exact ⟨_, rfl, ptr5 (blk_new' _ _ _ _ (by simp)), by repeat (first | exact Below.refl _ _ | refine Below.alloc ?_ (by simp <;> omega) _)⟩
theorem tyd_58 (a : Nat) (w : World) :
    Calls Tryz.prog 55 #[.int .u16 58, .pointer (some ⟨a, 0, none⟩)] w fun e w' => ∃ b, e = .returned (.iface 365 (.pointer (some ⟨b, 0, none⟩))) ∧ PtrC w' b 5 a ∧ Below w.heap.size w w' := by
  go_enter Tryz.func55, Tryz.ntmps55
  go_wp2_with fail
  refine (ty_58 a _).mono ?_
  rintro e w1 ⟨b, rfl, hp, hb⟩
  go_wp2
  go_ret
  exact ⟨b, rfl, hp, hb⟩

set_option maxRecDepth 10000 in
set_option maxHeartbeats 1000000 in
theorem ty_59 (a : Nat) (w : World) :
    Calls Tryz.prog 106 #[.int .u16 59, .pointer (some ⟨a, 0, none⟩)] w fun e w' => ∃ b, e = .returned (.iface 368 (.pointer (some ⟨b, 0, none⟩))) ∧ PtrC w' b 6 a ∧ Below w.heap.size w w' := by
  go_enter Tryz.func106, Tryz.ntmps106
  go_wp2
  go_ret
  exact ⟨_, rfl, ptr6 (blk_new' _ _ _ _ (by simp)), by repeat (first | exact Below.refl _ _ | refine Below.alloc ?_ (by simp <;> omega) _)⟩
theorem tyd_59 (a : Nat) (w : World) :
    Calls Tryz.prog 55 #[.int .u16 59, .pointer (some ⟨a, 0, none⟩)] w fun e w' => ∃ b, e = .returned (.iface 368 (.pointer (some ⟨b, 0, none⟩))) ∧ PtrC w' b 6 a ∧ Below w.heap.size w w' := by
  go_enter Tryz.func55, Tryz.ntmps55
  go_wp2_with fail
  refine (ty_59 a _).mono ?_
  rintro e w1 ⟨b, rfl, hp, hb⟩
  go_wp2
  go_ret
  exact ⟨b, rfl, hp, hb⟩

set_option maxRecDepth 10000 in
set_option maxHeartbeats 1000000 in
theorem ty_60 (a : Nat) (w : World) :
    Calls Tryz.prog 106 #[.int .u16 60, .pointer (some ⟨a, 0, none⟩)] w fun e w' => ∃ b, e = .returned (.iface 371 (.pointer (some ⟨b, 0, none⟩))) ∧ PtrC w' b 5 a ∧ Below w.heap.size w w' := by
  go_enter Tryz.func106, Tryz.ntmps106
  go_wp2
  go_ret
  exact ⟨_, rfl, ptr5 (blk_new' _ _ _ _ (by simp)), by repeat (first | exact Below.refl _ _ | refine Below.alloc ?_ (by simp <;> omega) _)⟩
theorem tyd_60 (a : Nat) (w : World) :
    Calls Tryz.prog 55 #[.int .u16 60, .pointer (some ⟨a, 0, none⟩)] w fun e w' => ∃ b, e = .returned (.iface 371 (.pointer (some ⟨b, 0, none⟩))) ∧ PtrC w' b 5 a ∧ Below w.heap.size w w' := by
  go_enter Tryz.func55, Tryz.ntmps55
  go_wp2_with fail
  refine (ty_60 a _).mono ?_
  rintro e w1 ⟨b, rfl, hp, hb⟩
  go_wp2
  go_ret
  exact ⟨b, rfl, hp, hb⟩

set_option maxRecDepth 10000 in
set_option maxHeartbeats 1000000 in
theorem ty_61 (a : Nat) (w : World) :
    Calls Tryz.prog 106 #[.int .u16 61, .pointer (some ⟨a, 0, none⟩)] w fun e w' => ∃ b, e = .returned (.iface 374 (.pointer (some ⟨b, 0, none⟩))) ∧ PtrC w' b 6 a ∧ Below w.heap.size w w' := by
  go_enter Tryz.func106, Tryz.ntmps106
  go_wp2
  go_ret
  exact ⟨_, rfl, ptr6 (blk_new' _ _ _ _ (by simp)), by repeat (first | exact Below.refl _ _ | refine Below.alloc ?_ (by simp <;> omega) _)⟩
theorem tyd_61 (a : Nat) (w : World) :
    Calls Tryz.prog 55 #[.int .u16 61, .pointer (some ⟨a, 0, none⟩)] w fun e w' => ∃ b, e = .returned (.iface 374 (.pointer (some ⟨b, 0, none⟩))) ∧ PtrC w' b 6 a ∧ Below w.heap.size w w' := by
  go_enter Tryz.func55, Tryz.ntmps55
  go_wp2_with fail
  refine (ty_61 a _).mono ?_
  rintro e w1 ⟨b, rfl, hp, hb⟩
  go_wp2
  go_ret
  exact ⟨b, rfl, hp, hb⟩

set_option maxRecDepth 10000 in
set_option maxHeartbeats 1000000 in
theorem ty_62 (a : Nat) (w : World) :
    Calls Tryz.prog 106 #[.int .u16 62, .pointer (some ⟨a, 0, none⟩)] w fun e w' => ∃ b, e = .returned (.iface 377 (.pointer (some ⟨b, 0, none⟩))) ∧ PtrC w' b 6 a ∧ Below w.heap.size w w' := by
  go_enter Tryz.func106, Tryz.ntmps106
  go_wp2
  go_ret
  exact ⟨_, rfl, ptr6 (blk_new' _ _ _ _ (by simp)), by repeat (first | exact Below.refl _ _ | refine Below.alloc ?_ (by simp <;> omega) _)⟩
theorem tyd_62 (a : Nat) (w : World) :
    Calls Tryz.prog 55 #[.int .u16 62, .pointer (some ⟨a, 0, none⟩)] w fun e w' => ∃ b, e = .returned (.iface 377 (.pointer (some ⟨b, 0, none⟩))) ∧ PtrC w' b 6 a ∧ Below w.heap.size w w' := by
  go_enter Tryz.func55, Tryz.ntmps55
  go_wp2_with fail
  refine (ty_62 a _).mono ?_
  rintro e w1 ⟨b, rfl, hp, hb⟩
  go_wp2
  go_ret
  exact ⟨b, rfl, hp, hb⟩

set_option maxRecDepth 10000 in
set_option maxHeartbeats 1000000 in
theorem ty_63 (a : Nat) (w : World) :
    Calls Tryz.prog 106 #[.int .u16 63, .pointer (some ⟨a, 0, none⟩)] w fun e w' => ∃ b, e = .returned (.iface 380 (.pointer (some ⟨b, 0, none⟩))) ∧ PtrC w' b 7 a ∧ Below w.heap.size w w' := by
  go_enter Tryz.func106, Tryz.ntmps106
  go_wp2
  go_ret
  exact ⟨_, rfl, ptr7 (blk_new' _ _ _ _ (by simp)), by repeat (first | exact Below.refl _ _ | refine Below.alloc ?_ (by simp <;> omega) _)⟩
theorem tyd_63 (a : Nat) (w : World) :
    Calls Tryz.prog 55 #[.int .u16 63, .pointer (some ⟨a, 0, none⟩)] w fun e w' => ∃ b, e = .returned (.iface 380 (.pointer (some ⟨b, 0, none⟩))) ∧ PtrC w' b 7 a ∧ Below w.heap.size w w' := by
  go_enter Tryz.func55, Tryz.ntmps55
  go_wp2_with fail
  refine (ty_63 a _).mono ?_
  rintro e w1 ⟨b, rfl, hp, hb⟩
  go_wp2
  go_ret
  exact ⟨b, rfl, hp, hb⟩

end Go.Proofs.YtbnbfgkcndomaabGreatDoor
