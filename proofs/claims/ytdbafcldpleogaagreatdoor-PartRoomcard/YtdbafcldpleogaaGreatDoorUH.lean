/-
  Must, Nil; the document's Can and Must.
-/
import Derived.Test.YtdbafcldpleogaaGreatDoorUG
namespace Go.Proofs.YtdbafcldpleogaaGreatDoor
open Go.RowKit

/-- A hollow part; no part of no kind. -/
def holV (k : Nat) : Value := bif kindB k then .iface (tyOf k).id (.pointer none) else .nilIface

theorem kind_other {k : Nat} (h : kindB k = false) : ((k : Int) == 1) = false ∧ ((k : Int) == 2) = false ∧ ((k : Int) == 3) = false ∧ ((k : Int) == 4) = false ∧ ((k : Int) == 5) = false ∧ ((k : Int) == 6) = false ∧ ((k : Int) == 7) = false ∧ ((k : Int) == 8) = false ∧ ((k : Int) == 9) = false ∧ ((k : Int) == 10) = false := by
  have : ¬ (1 ≤ k ∧ k ≤ 10) := by
    intro ⟨h1, h2⟩
    simp [kindB, h1, h2] at h
  refine ⟨?_, ?_, ?_, ?_, ?_, ?_, ?_, ?_, ?_, ?_⟩ <;> exact beq_eq_false_iff_ne.2 (by omega)

set_option maxHeartbeats 1000000 in
theorem hollow_any (k : Nat) (w : World) :
    Calls Tryz.prog 69 #[.int .u8 (k : Nat)] w fun e w' => e = .returned (holV k) ∧ w' = w := by
  cases hk : kindB k
  · obtain ⟨k1, k2, k3, k4, k5, k6, k7, k8, k9, k10⟩ := kind_other hk
    have e0 : holV k = .nilIface := by simp [holV, hk]
    rw [e0]
    clear hk e0
    go_enter Tryz.func69, Tryz.ntmps69
    go_wp2
    go_ret
    exact ⟨rfl, rfl⟩
  · rcases kind_cases hk with rfl | rfl | rfl | rfl | rfl | rfl | rfl | rfl | rfl | rfl
    all_goals
      clear hk
      go_enter Tryz.func69, Tryz.ntmps69
      go_wp2
      go_ret
      exact ⟨rfl, rfl⟩

theorem nilk_any (k : Nat) (w : World) :
    Calls Tryz.prog 32 #[.int .u8 (k : Nat)] w fun e w' => e = .returned (holV k) ∧ w' = w := by
  have h := hollow_any k w
  go_enter Tryz.func32, Tryz.ntmps32
  go_wp2_with fail
  refine h.mono ?_
  rintro e w1 ⟨rfl, rfl⟩
  go_wp2
  go_ret
  exact ⟨rfl, rfl⟩

set_option maxHeartbeats 1000000 in
theorem rcan_any (k : Nat) (w : World) :
    Calls Tryz.prog 13 #[.int .u8 (k : Nat)] w fun e w' => e = .returned (.int .u16 (canK k : Nat)) ∧ w' = w := by
  cases hk : kindB k
  · obtain ⟨k1, k2, k3, k4, k5, k6, k7, k8, k9, k10⟩ := kind_other hk
    have e0 := can_none hk
    rw [e0]
    clear hk e0
    go_enter Tryz.func13, Tryz.ntmps13
    go_wp2
    go_ret
    exact ⟨rfl, rfl⟩
  · rcases kind_cases hk with rfl | rfl | rfl | rfl | rfl | rfl | rfl | rfl | rfl | rfl
    all_goals
      clear hk
      go_enter Tryz.func13, Tryz.ntmps13
      go_wp2
      go_ret
      exact ⟨rfl, rfl⟩

/-- Bits beyond the six. -/
def beyB (m : Int) : Bool := bits .andNot .u16 m 63 != 0
theorem bey_fin : ∀ a b : Fin 256, beyB ((a.val * 256 + b.val : Nat) : Int) = decide (63 < a.val * 256 + b.val) := by decide +kernel
theorem bey_lt (m : Nat) (h : m < 65536) : beyB (m : Int) = decide (63 < m) := by
  have := bey_fin ⟨m / 256, by omega⟩ ⟨m % 256, by omega⟩
  simp only at this
  rwa [show m / 256 * 256 + m % 256 = m by omega] at this

theorem must_ty (t : Ty) (v : Value) (m : Int) (w : World) :
    Calls Tryz.prog 14 #[.iface t.id v, .int .u16 m] w fun e w' => e = .returned (.tuple #[.int .u16 (bif beyB m then 0 else misK t m 0), .int .i64 (bif beyB m then 2 else if misK t m 0 = 0 then 0 else 61)]) ∧ Below w.heap.size w w' := by
  have hF := firstM_any t v m w
  generalize misK t m 0 = r at *
  generalize (if r = 0 then (0 : Int) else 61) = r2 at *
  cases hb : beyB m
  · have hb' : (bits .andNot .u16 m 63 != 0) = false := hb
    clear hb
    go_enter Tryz.func14, Tryz.ntmps14
    go_wp2_with fail
    refine hF.mono ?_
    rintro e w1 ⟨rfl, hb⟩
    go_wp2
    exact bodyPost_ret (v := .tuple #[.int .u16 r, .int .i64 r2]) (by simp [results, Tryz.results14, go_sem]) rfl ⟨rfl, hb⟩
  · have hb' : (bits .andNot .u16 m 63 != 0) = true := hb
    clear hb
    go_enter Tryz.func14, Tryz.ntmps14
    go_wp2
    exact bodyPost_ret (v := .tuple #[.int .u16 0, .int .i64 2]) (by simp [results, Tryz.results14, go_sem]) rfl ⟨rfl, Below.refl _ _⟩

theorem must_nil (m : Int) (w : World) :
    Calls Tryz.prog 14 #[.nilIface, .int .u16 m] w fun e w' => e = .returned (.tuple #[.int .u16 0, .int .i64 (bif beyB m then 2 else 8)]) ∧ Below w.heap.size w w' := by
  cases hb : beyB m
  · have hb' : (bits .andNot .u16 m 63 != 0) = false := hb
    clear hb
    go_enter Tryz.func14, Tryz.ntmps14
    go_wp2
    exact bodyPost_ret (v := .tuple #[.int .u16 0, .int .i64 8]) (by simp [results, Tryz.results14, go_sem]) rfl ⟨rfl, Below.refl _ _⟩
  · have hb' : (bits .andNot .u16 m 63 != 0) = true := hb
    clear hb
    go_enter Tryz.func14, Tryz.ntmps14
    go_wp2
    exact bodyPost_ret (v := .tuple #[.int .u16 0, .int .i64 2]) (by simp [results, Tryz.results14, go_sem]) rfl ⟨rfl, Below.refl _ _⟩

end Go.Proofs.YtdbafcldpleogaaGreatDoor
