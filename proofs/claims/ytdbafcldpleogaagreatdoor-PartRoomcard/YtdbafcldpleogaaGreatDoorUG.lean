/-
  Must: the first ability of a mask that is not there, by assertions that panic.
-/
import Derived.Test.YtdbafcldpleogaaGreatDoorUF
namespace Go.Proofs.YtdbafcldpleogaaGreatDoor
open Go.RowKit

section
variable {P : Program} {w : World} {t asserted : TypeId} {want : Array (String × TypeId)}
theorem assert_has (hu : P.underlying asserted = some (.interface want)) (h : (P.info? t).map (fun i => (lacking want i.methods).isEmpty) = some true) (v : Value) (xT : TypeId) :
    (Instr.typeAssert (.iface t v) xT asserted false).run P w = .ok (.iface t v) w := by
  obtain ⟨i, hi, hl⟩ := Option.map_eq_some_iff.1 h
  simp [Instr.typeAssert, run_underlying hu, typeInfo, hi, missingMethod_none (List.isEmpty_iff.1 hl)]
theorem assert_dies (hu : P.underlying asserted = some (.interface want)) (h : (P.info? t).map (fun i => (lacking want i.methods).isEmpty) = some false) (v : Value) (xT : TypeId) :
    ∃ m, (Instr.typeAssert (.iface t v) xT asserted false).run P w = (runtimePanic (.typeAssertion none (some t) asserted m) : Sem Value).run P w := by
  obtain ⟨i, hi, hl⟩ := Option.map_eq_some_iff.1 h
  obtain ⟨m, hm⟩ := missingMethod_some (want := want) (got := i.methods) (fun e => by rw [e] at hl; cases hl)
  exact ⟨m, by simp [Instr.typeAssert, run_underlying hu, typeInfo, hi, hm]⟩
end
theorem dies_run (a b : TypeId) (m : String) (w : World) : ∃ o, (runtimePanic (.typeAssertion none (some a) b m) : Sem Value).run Tryz.prog w = .halt (.panic (.iface 15 (.pointer (some ⟨w.heap.size, 0, none⟩)))) (w.alloc o) := by
  have e : (elemOf 15).run Tryz.prog w = .ok 239 w := by kernel_rfl
  refine ⟨.cells #[.pointer none, typeHandle Tryz.prog a, typeHandle Tryz.prog b, strVal m] 239, ?_⟩
  simp [runtimePanic, go_sem, e]

theorem must_label_1 (v : Value) (w : World) : (Instr.typeAssert (.iface 156 v) 38 95 false).run Tryz.prog w = .ok (.iface 156 v) w := assert_has Tryz.underlying95 (by kernel_rfl) v _
theorem must_label_2 (v : Value) (w : World) : (Instr.typeAssert (.iface 156 v) 38 98 false).run Tryz.prog w = .ok (.iface 156 v) w := assert_has Tryz.underlying98 (by kernel_rfl) v _
theorem must_label_4 (v : Value) (w : World) : ∃ o, (Instr.typeAssert (.iface 156 v) 38 101 false).run Tryz.prog w = .halt (.panic (.iface 15 (.pointer (some ⟨w.heap.size, 0, none⟩)))) (w.alloc o) := by
  obtain ⟨m, hm⟩ := assert_dies (P := Tryz.prog) (w := w) (t := 156) Tryz.underlying101 (by kernel_rfl) v 38
  rw [hm]
  exact dies_run _ _ m w
theorem must_label_8 (v : Value) (w : World) : ∃ o, (Instr.typeAssert (.iface 156 v) 38 104 false).run Tryz.prog w = .halt (.panic (.iface 15 (.pointer (some ⟨w.heap.size, 0, none⟩)))) (w.alloc o) := by
  obtain ⟨m, hm⟩ := assert_dies (P := Tryz.prog) (w := w) (t := 156) Tryz.underlying104 (by kernel_rfl) v 38
  rw [hm]
  exact dies_run _ _ m w
theorem must_label_16 (v : Value) (w : World) : ∃ o, (Instr.typeAssert (.iface 156 v) 38 107 false).run Tryz.prog w = .halt (.panic (.iface 15 (.pointer (some ⟨w.heap.size, 0, none⟩)))) (w.alloc o) := by
  obtain ⟨m, hm⟩ := assert_dies (P := Tryz.prog) (w := w) (t := 156) Tryz.underlying107 (by kernel_rfl) v 38
  rw [hm]
  exact dies_run _ _ m w
theorem must_label_32 (v : Value) (w : World) : ∃ o, (Instr.typeAssert (.iface 156 v) 38 110 false).run Tryz.prog w = .halt (.panic (.iface 15 (.pointer (some ⟨w.heap.size, 0, none⟩)))) (w.alloc o) := by
  obtain ⟨m, hm⟩ := assert_dies (P := Tryz.prog) (w := w) (t := 156) Tryz.underlying110 (by kernel_rfl) v 38
  rw [hm]
  exact dies_run _ _ m w
theorem must_button_1 (v : Value) (w : World) : (Instr.typeAssert (.iface 159 v) 38 95 false).run Tryz.prog w = .ok (.iface 159 v) w := assert_has Tryz.underlying95 (by kernel_rfl) v _
theorem must_button_2 (v : Value) (w : World) : (Instr.typeAssert (.iface 159 v) 38 98 false).run Tryz.prog w = .ok (.iface 159 v) w := assert_has Tryz.underlying98 (by kernel_rfl) v _
theorem must_button_4 (v : Value) (w : World) : (Instr.typeAssert (.iface 159 v) 38 101 false).run Tryz.prog w = .ok (.iface 159 v) w := assert_has Tryz.underlying101 (by kernel_rfl) v _
theorem must_button_8 (v : Value) (w : World) : ∃ o, (Instr.typeAssert (.iface 159 v) 38 104 false).run Tryz.prog w = .halt (.panic (.iface 15 (.pointer (some ⟨w.heap.size, 0, none⟩)))) (w.alloc o) := by
  obtain ⟨m, hm⟩ := assert_dies (P := Tryz.prog) (w := w) (t := 159) Tryz.underlying104 (by kernel_rfl) v 38
  rw [hm]
  exact dies_run _ _ m w
theorem must_button_16 (v : Value) (w : World) : ∃ o, (Instr.typeAssert (.iface 159 v) 38 107 false).run Tryz.prog w = .halt (.panic (.iface 15 (.pointer (some ⟨w.heap.size, 0, none⟩)))) (w.alloc o) := by
  obtain ⟨m, hm⟩ := assert_dies (P := Tryz.prog) (w := w) (t := 159) Tryz.underlying107 (by kernel_rfl) v 38
  rw [hm]
  exact dies_run _ _ m w
theorem must_button_32 (v : Value) (w : World) : ∃ o, (Instr.typeAssert (.iface 159 v) 38 110 false).run Tryz.prog w = .halt (.panic (.iface 15 (.pointer (some ⟨w.heap.size, 0, none⟩)))) (w.alloc o) := by
  obtain ⟨m, hm⟩ := assert_dies (P := Tryz.prog) (w := w) (t := 159) Tryz.underlying110 (by kernel_rfl) v 38
  rw [hm]
  exact dies_run _ _ m w
theorem must_field_1 (v : Value) (w : World) : (Instr.typeAssert (.iface 162 v) 38 95 false).run Tryz.prog w = .ok (.iface 162 v) w := assert_has Tryz.underlying95 (by kernel_rfl) v _
theorem must_field_2 (v : Value) (w : World) : (Instr.typeAssert (.iface 162 v) 38 98 false).run Tryz.prog w = .ok (.iface 162 v) w := assert_has Tryz.underlying98 (by kernel_rfl) v _
theorem must_field_4 (v : Value) (w : World) : (Instr.typeAssert (.iface 162 v) 38 101 false).run Tryz.prog w = .ok (.iface 162 v) w := assert_has Tryz.underlying101 (by kernel_rfl) v _
theorem must_field_8 (v : Value) (w : World) : ∃ o, (Instr.typeAssert (.iface 162 v) 38 104 false).run Tryz.prog w = .halt (.panic (.iface 15 (.pointer (some ⟨w.heap.size, 0, none⟩)))) (w.alloc o) := by
  obtain ⟨m, hm⟩ := assert_dies (P := Tryz.prog) (w := w) (t := 162) Tryz.underlying104 (by kernel_rfl) v 38
  rw [hm]
  exact dies_run _ _ m w
theorem must_field_16 (v : Value) (w : World) : (Instr.typeAssert (.iface 162 v) 38 107 false).run Tryz.prog w = .ok (.iface 162 v) w := assert_has Tryz.underlying107 (by kernel_rfl) v _
theorem must_field_32 (v : Value) (w : World) : ∃ o, (Instr.typeAssert (.iface 162 v) 38 110 false).run Tryz.prog w = .halt (.panic (.iface 15 (.pointer (some ⟨w.heap.size, 0, none⟩)))) (w.alloc o) := by
  obtain ⟨m, hm⟩ := assert_dies (P := Tryz.prog) (w := w) (t := 162) Tryz.underlying110 (by kernel_rfl) v 38
  rw [hm]
  exact dies_run _ _ m w
theorem must_box_1 (v : Value) (w : World) : (Instr.typeAssert (.iface 167 v) 38 95 false).run Tryz.prog w = .ok (.iface 167 v) w := assert_has Tryz.underlying95 (by kernel_rfl) v _
theorem must_box_2 (v : Value) (w : World) : ∃ o, (Instr.typeAssert (.iface 167 v) 38 98 false).run Tryz.prog w = .halt (.panic (.iface 15 (.pointer (some ⟨w.heap.size, 0, none⟩)))) (w.alloc o) := by
  obtain ⟨m, hm⟩ := assert_dies (P := Tryz.prog) (w := w) (t := 167) Tryz.underlying98 (by kernel_rfl) v 38
  rw [hm]
  exact dies_run _ _ m w
theorem must_box_4 (v : Value) (w : World) : ∃ o, (Instr.typeAssert (.iface 167 v) 38 101 false).run Tryz.prog w = .halt (.panic (.iface 15 (.pointer (some ⟨w.heap.size, 0, none⟩)))) (w.alloc o) := by
  obtain ⟨m, hm⟩ := assert_dies (P := Tryz.prog) (w := w) (t := 167) Tryz.underlying101 (by kernel_rfl) v 38
  rw [hm]
  exact dies_run _ _ m w
theorem must_box_8 (v : Value) (w : World) : ∃ o, (Instr.typeAssert (.iface 167 v) 38 104 false).run Tryz.prog w = .halt (.panic (.iface 15 (.pointer (some ⟨w.heap.size, 0, none⟩)))) (w.alloc o) := by
  obtain ⟨m, hm⟩ := assert_dies (P := Tryz.prog) (w := w) (t := 167) Tryz.underlying104 (by kernel_rfl) v 38
  rw [hm]
  exact dies_run _ _ m w
theorem must_box_16 (v : Value) (w : World) : ∃ o, (Instr.typeAssert (.iface 167 v) 38 107 false).run Tryz.prog w = .halt (.panic (.iface 15 (.pointer (some ⟨w.heap.size, 0, none⟩)))) (w.alloc o) := by
  obtain ⟨m, hm⟩ := assert_dies (P := Tryz.prog) (w := w) (t := 167) Tryz.underlying107 (by kernel_rfl) v 38
  rw [hm]
  exact dies_run _ _ m w
theorem must_box_32 (v : Value) (w : World) : (Instr.typeAssert (.iface 167 v) 38 110 false).run Tryz.prog w = .ok (.iface 167 v) w := assert_has Tryz.underlying110 (by kernel_rfl) v _
theorem must_scroll_1 (v : Value) (w : World) : (Instr.typeAssert (.iface 172 v) 38 95 false).run Tryz.prog w = .ok (.iface 172 v) w := assert_has Tryz.underlying95 (by kernel_rfl) v _
theorem must_scroll_2 (v : Value) (w : World) : (Instr.typeAssert (.iface 172 v) 38 98 false).run Tryz.prog w = .ok (.iface 172 v) w := assert_has Tryz.underlying98 (by kernel_rfl) v _
theorem must_scroll_4 (v : Value) (w : World) : (Instr.typeAssert (.iface 172 v) 38 101 false).run Tryz.prog w = .ok (.iface 172 v) w := assert_has Tryz.underlying101 (by kernel_rfl) v _
theorem must_scroll_8 (v : Value) (w : World) : (Instr.typeAssert (.iface 172 v) 38 104 false).run Tryz.prog w = .ok (.iface 172 v) w := assert_has Tryz.underlying104 (by kernel_rfl) v _
theorem must_scroll_16 (v : Value) (w : World) : ∃ o, (Instr.typeAssert (.iface 172 v) 38 107 false).run Tryz.prog w = .halt (.panic (.iface 15 (.pointer (some ⟨w.heap.size, 0, none⟩)))) (w.alloc o) := by
  obtain ⟨m, hm⟩ := assert_dies (P := Tryz.prog) (w := w) (t := 172) Tryz.underlying107 (by kernel_rfl) v 38
  rw [hm]
  exact dies_run _ _ m w
theorem must_scroll_32 (v : Value) (w : World) : (Instr.typeAssert (.iface 172 v) 38 110 false).run Tryz.prog w = .ok (.iface 172 v) w := assert_has Tryz.underlying110 (by kernel_rfl) v _
theorem must_canvas_1 (v : Value) (w : World) : ∃ o, (Instr.typeAssert (.iface 177 v) 38 95 false).run Tryz.prog w = .halt (.panic (.iface 15 (.pointer (some ⟨w.heap.size, 0, none⟩)))) (w.alloc o) := by
  obtain ⟨m, hm⟩ := assert_dies (P := Tryz.prog) (w := w) (t := 177) Tryz.underlying95 (by kernel_rfl) v 38
  rw [hm]
  exact dies_run _ _ m w
theorem must_canvas_2 (v : Value) (w : World) : (Instr.typeAssert (.iface 177 v) 38 98 false).run Tryz.prog w = .ok (.iface 177 v) w := assert_has Tryz.underlying98 (by kernel_rfl) v _
theorem must_canvas_4 (v : Value) (w : World) : ∃ o, (Instr.typeAssert (.iface 177 v) 38 101 false).run Tryz.prog w = .halt (.panic (.iface 15 (.pointer (some ⟨w.heap.size, 0, none⟩)))) (w.alloc o) := by
  obtain ⟨m, hm⟩ := assert_dies (P := Tryz.prog) (w := w) (t := 177) Tryz.underlying101 (by kernel_rfl) v 38
  rw [hm]
  exact dies_run _ _ m w
theorem must_canvas_8 (v : Value) (w : World) : ∃ o, (Instr.typeAssert (.iface 177 v) 38 104 false).run Tryz.prog w = .halt (.panic (.iface 15 (.pointer (some ⟨w.heap.size, 0, none⟩)))) (w.alloc o) := by
  obtain ⟨m, hm⟩ := assert_dies (P := Tryz.prog) (w := w) (t := 177) Tryz.underlying104 (by kernel_rfl) v 38
  rw [hm]
  exact dies_run _ _ m w
theorem must_canvas_16 (v : Value) (w : World) : ∃ o, (Instr.typeAssert (.iface 177 v) 38 107 false).run Tryz.prog w = .halt (.panic (.iface 15 (.pointer (some ⟨w.heap.size, 0, none⟩)))) (w.alloc o) := by
  obtain ⟨m, hm⟩ := assert_dies (P := Tryz.prog) (w := w) (t := 177) Tryz.underlying107 (by kernel_rfl) v 38
  rw [hm]
  exact dies_run _ _ m w
theorem must_canvas_32 (v : Value) (w : World) : ∃ o, (Instr.typeAssert (.iface 177 v) 38 110 false).run Tryz.prog w = .halt (.panic (.iface 15 (.pointer (some ⟨w.heap.size, 0, none⟩)))) (w.alloc o) := by
  obtain ⟨m, hm⟩ := assert_dies (P := Tryz.prog) (w := w) (t := 177) Tryz.underlying110 (by kernel_rfl) v 38
  rw [hm]
  exact dies_run _ _ m w
theorem must_gap_1 (v : Value) (w : World) : (Instr.typeAssert (.iface 180 v) 38 95 false).run Tryz.prog w = .ok (.iface 180 v) w := assert_has Tryz.underlying95 (by kernel_rfl) v _
theorem must_gap_2 (v : Value) (w : World) : ∃ o, (Instr.typeAssert (.iface 180 v) 38 98 false).run Tryz.prog w = .halt (.panic (.iface 15 (.pointer (some ⟨w.heap.size, 0, none⟩)))) (w.alloc o) := by
  obtain ⟨m, hm⟩ := assert_dies (P := Tryz.prog) (w := w) (t := 180) Tryz.underlying98 (by kernel_rfl) v 38
  rw [hm]
  exact dies_run _ _ m w
theorem must_gap_4 (v : Value) (w : World) : ∃ o, (Instr.typeAssert (.iface 180 v) 38 101 false).run Tryz.prog w = .halt (.panic (.iface 15 (.pointer (some ⟨w.heap.size, 0, none⟩)))) (w.alloc o) := by
  obtain ⟨m, hm⟩ := assert_dies (P := Tryz.prog) (w := w) (t := 180) Tryz.underlying101 (by kernel_rfl) v 38
  rw [hm]
  exact dies_run _ _ m w
theorem must_gap_8 (v : Value) (w : World) : ∃ o, (Instr.typeAssert (.iface 180 v) 38 104 false).run Tryz.prog w = .halt (.panic (.iface 15 (.pointer (some ⟨w.heap.size, 0, none⟩)))) (w.alloc o) := by
  obtain ⟨m, hm⟩ := assert_dies (P := Tryz.prog) (w := w) (t := 180) Tryz.underlying104 (by kernel_rfl) v 38
  rw [hm]
  exact dies_run _ _ m w
theorem must_gap_16 (v : Value) (w : World) : ∃ o, (Instr.typeAssert (.iface 180 v) 38 107 false).run Tryz.prog w = .halt (.panic (.iface 15 (.pointer (some ⟨w.heap.size, 0, none⟩)))) (w.alloc o) := by
  obtain ⟨m, hm⟩ := assert_dies (P := Tryz.prog) (w := w) (t := 180) Tryz.underlying107 (by kernel_rfl) v 38
  rw [hm]
  exact dies_run _ _ m w
theorem must_gap_32 (v : Value) (w : World) : ∃ o, (Instr.typeAssert (.iface 180 v) 38 110 false).run Tryz.prog w = .halt (.panic (.iface 15 (.pointer (some ⟨w.heap.size, 0, none⟩)))) (w.alloc o) := by
  obtain ⟨m, hm⟩ := assert_dies (P := Tryz.prog) (w := w) (t := 180) Tryz.underlying110 (by kernel_rfl) v 38
  rw [hm]
  exact dies_run _ _ m w

set_option maxHeartbeats 1000000 in
theorem insist_1 (t : Ty) (v : Value) (w : World) (h : t.mes = true) :
    Calls Tryz.prog 79 #[.iface t.id v, .int .u16 1] w fun e w' => e = .returned (.tuple #[]) ∧ w' = w := by
  cases t
  · simp only [Ty.id]
    have m1 := must_label_1
    go_enter Tryz.func79, Tryz.ntmps79
    go_wp2
    go_end0
    exact ⟨rfl, rfl⟩
  · simp only [Ty.id]
    have m1 := must_button_1
    go_enter Tryz.func79, Tryz.ntmps79
    go_wp2
    go_end0
    exact ⟨rfl, rfl⟩
  · simp only [Ty.id]
    have m1 := must_field_1
    go_enter Tryz.func79, Tryz.ntmps79
    go_wp2
    go_end0
    exact ⟨rfl, rfl⟩
  · simp only [Ty.id]
    have m1 := must_box_1
    go_enter Tryz.func79, Tryz.ntmps79
    go_wp2
    go_end0
    exact ⟨rfl, rfl⟩
  · simp only [Ty.id]
    have m1 := must_scroll_1
    go_enter Tryz.func79, Tryz.ntmps79
    go_wp2
    go_end0
    exact ⟨rfl, rfl⟩
  · cases h
  · simp only [Ty.id]
    have m1 := must_gap_1
    go_enter Tryz.func79, Tryz.ntmps79
    go_wp2
    go_end0
    exact ⟨rfl, rfl⟩

set_option maxHeartbeats 1000000 in
theorem insistno_1 (t : Ty) (v : Value) (w : World) (h : t.mes = false) :
    Calls Tryz.prog 79 #[.iface t.id v, .int .u16 1] w fun e w' => (∃ pv, e = .panicked [{ v := .iface 15 pv, recovered := false }]) ∧ Below w.heap.size w w' := by
  cases t
  · cases h
  · cases h
  · cases h
  · cases h
  · cases h
  · simp only [Ty.id]
    obtain ⟨o, m1⟩ := must_canvas_1 v w
    have L : Below w.heap.size w (w.alloc o) := (Below.refl _ w).alloc (Nat.le_refl _) _
    go_enter Tryz.func79, Tryz.ntmps79
    go_wp2
    exact ⟨rfl, ⟨_, rfl⟩, L⟩
  · cases h

set_option maxHeartbeats 1000000 in
theorem insist_2 (t : Ty) (v : Value) (w : World) (h : t.pai = true) :
    Calls Tryz.prog 79 #[.iface t.id v, .int .u16 2] w fun e w' => e = .returned (.tuple #[]) ∧ w' = w := by
  cases t
  · simp only [Ty.id]
    have m1 := must_label_2
    go_enter Tryz.func79, Tryz.ntmps79
    go_wp2
    go_end0
    exact ⟨rfl, rfl⟩
  · simp only [Ty.id]
    have m1 := must_button_2
    go_enter Tryz.func79, Tryz.ntmps79
    go_wp2
    go_end0
    exact ⟨rfl, rfl⟩
  · simp only [Ty.id]
    have m1 := must_field_2
    go_enter Tryz.func79, Tryz.ntmps79
    go_wp2
    go_end0
    exact ⟨rfl, rfl⟩
  · cases h
  · simp only [Ty.id]
    have m1 := must_scroll_2
    go_enter Tryz.func79, Tryz.ntmps79
    go_wp2
    go_end0
    exact ⟨rfl, rfl⟩
  · simp only [Ty.id]
    have m1 := must_canvas_2
    go_enter Tryz.func79, Tryz.ntmps79
    go_wp2
    go_end0
    exact ⟨rfl, rfl⟩
  · cases h

set_option maxHeartbeats 1000000 in
theorem insistno_2 (t : Ty) (v : Value) (w : World) (h : t.pai = false) :
    Calls Tryz.prog 79 #[.iface t.id v, .int .u16 2] w fun e w' => (∃ pv, e = .panicked [{ v := .iface 15 pv, recovered := false }]) ∧ Below w.heap.size w w' := by
  cases t
  · cases h
  · cases h
  · cases h
  · simp only [Ty.id]
    obtain ⟨o, m1⟩ := must_box_2 v w
    have L : Below w.heap.size w (w.alloc o) := (Below.refl _ w).alloc (Nat.le_refl _) _
    go_enter Tryz.func79, Tryz.ntmps79
    go_wp2
    exact ⟨rfl, ⟨_, rfl⟩, L⟩
  · cases h
  · cases h
  · simp only [Ty.id]
    obtain ⟨o, m1⟩ := must_gap_2 v w
    have L : Below w.heap.size w (w.alloc o) := (Below.refl _ w).alloc (Nat.le_refl _) _
    go_enter Tryz.func79, Tryz.ntmps79
    go_wp2
    exact ⟨rfl, ⟨_, rfl⟩, L⟩

set_option maxHeartbeats 1000000 in
theorem insist_4 (t : Ty) (v : Value) (w : World) (h : t.foc = true) :
    Calls Tryz.prog 79 #[.iface t.id v, .int .u16 4] w fun e w' => e = .returned (.tuple #[]) ∧ w' = w := by
  cases t
  · cases h
  · simp only [Ty.id]
    have m1 := must_button_4
    go_enter Tryz.func79, Tryz.ntmps79
    go_wp2
    go_end0
    exact ⟨rfl, rfl⟩
  · simp only [Ty.id]
    have m1 := must_field_4
    go_enter Tryz.func79, Tryz.ntmps79
    go_wp2
    go_end0
    exact ⟨rfl, rfl⟩
  · cases h
  · simp only [Ty.id]
    have m1 := must_scroll_4
    go_enter Tryz.func79, Tryz.ntmps79
    go_wp2
    go_end0
    exact ⟨rfl, rfl⟩
  · cases h
  · cases h

set_option maxHeartbeats 1000000 in
theorem insistno_4 (t : Ty) (v : Value) (w : World) (h : t.foc = false) :
    Calls Tryz.prog 79 #[.iface t.id v, .int .u16 4] w fun e w' => (∃ pv, e = .panicked [{ v := .iface 15 pv, recovered := false }]) ∧ Below w.heap.size w w' := by
  cases t
  · simp only [Ty.id]
    obtain ⟨o, m1⟩ := must_label_4 v w
    have L : Below w.heap.size w (w.alloc o) := (Below.refl _ w).alloc (Nat.le_refl _) _
    go_enter Tryz.func79, Tryz.ntmps79
    go_wp2
    exact ⟨rfl, ⟨_, rfl⟩, L⟩
  · cases h
  · cases h
  · simp only [Ty.id]
    obtain ⟨o, m1⟩ := must_box_4 v w
    have L : Below w.heap.size w (w.alloc o) := (Below.refl _ w).alloc (Nat.le_refl _) _
    go_enter Tryz.func79, Tryz.ntmps79
    go_wp2
    exact ⟨rfl, ⟨_, rfl⟩, L⟩
  · cases h
  · simp only [Ty.id]
    obtain ⟨o, m1⟩ := must_canvas_4 v w
    have L : Below w.heap.size w (w.alloc o) := (Below.refl _ w).alloc (Nat.le_refl _) _
    go_enter Tryz.func79, Tryz.ntmps79
    go_wp2
    exact ⟨rfl, ⟨_, rfl⟩, L⟩
  · simp only [Ty.id]
    obtain ⟨o, m1⟩ := must_gap_4 v w
    have L : Below w.heap.size w (w.alloc o) := (Below.refl _ w).alloc (Nat.le_refl _) _
    go_enter Tryz.func79, Tryz.ntmps79
    go_wp2
    exact ⟨rfl, ⟨_, rfl⟩, L⟩

set_option maxHeartbeats 1000000 in
theorem insist_8 (t : Ty) (v : Value) (w : World) (h : t.scr = true) :
    Calls Tryz.prog 79 #[.iface t.id v, .int .u16 8] w fun e w' => e = .returned (.tuple #[]) ∧ w' = w := by
  cases t
  · cases h
  · cases h
  · cases h
  · cases h
  · simp only [Ty.id]
    have m1 := must_scroll_8
    go_enter Tryz.func79, Tryz.ntmps79
    go_wp2
    go_end0
    exact ⟨rfl, rfl⟩
  · cases h
  · cases h

set_option maxHeartbeats 1000000 in
theorem insistno_8 (t : Ty) (v : Value) (w : World) (h : t.scr = false) :
    Calls Tryz.prog 79 #[.iface t.id v, .int .u16 8] w fun e w' => (∃ pv, e = .panicked [{ v := .iface 15 pv, recovered := false }]) ∧ Below w.heap.size w w' := by
  cases t
  · simp only [Ty.id]
    obtain ⟨o, m1⟩ := must_label_8 v w
    have L : Below w.heap.size w (w.alloc o) := (Below.refl _ w).alloc (Nat.le_refl _) _
    go_enter Tryz.func79, Tryz.ntmps79
    go_wp2
    exact ⟨rfl, ⟨_, rfl⟩, L⟩
  · simp only [Ty.id]
    obtain ⟨o, m1⟩ := must_button_8 v w
    have L : Below w.heap.size w (w.alloc o) := (Below.refl _ w).alloc (Nat.le_refl _) _
    go_enter Tryz.func79, Tryz.ntmps79
    go_wp2
    exact ⟨rfl, ⟨_, rfl⟩, L⟩
  · simp only [Ty.id]
    obtain ⟨o, m1⟩ := must_field_8 v w
    have L : Below w.heap.size w (w.alloc o) := (Below.refl _ w).alloc (Nat.le_refl _) _
    go_enter Tryz.func79, Tryz.ntmps79
    go_wp2
    exact ⟨rfl, ⟨_, rfl⟩, L⟩
  · simp only [Ty.id]
    obtain ⟨o, m1⟩ := must_box_8 v w
    have L : Below w.heap.size w (w.alloc o) := (Below.refl _ w).alloc (Nat.le_refl _) _
    go_enter Tryz.func79, Tryz.ntmps79
    go_wp2
    exact ⟨rfl, ⟨_, rfl⟩, L⟩
  · cases h
  · simp only [Ty.id]
    obtain ⟨o, m1⟩ := must_canvas_8 v w
    have L : Below w.heap.size w (w.alloc o) := (Below.refl _ w).alloc (Nat.le_refl _) _
    go_enter Tryz.func79, Tryz.ntmps79
    go_wp2
    exact ⟨rfl, ⟨_, rfl⟩, L⟩
  · simp only [Ty.id]
    obtain ⟨o, m1⟩ := must_gap_8 v w
    have L : Below w.heap.size w (w.alloc o) := (Below.refl _ w).alloc (Nat.le_refl _) _
    go_enter Tryz.func79, Tryz.ntmps79
    go_wp2
    exact ⟨rfl, ⟨_, rfl⟩, L⟩

set_option maxHeartbeats 1000000 in
theorem insist_16 (t : Ty) (v : Value) (w : World) (h : t.acc = true) :
    Calls Tryz.prog 79 #[.iface t.id v, .int .u16 16] w fun e w' => e = .returned (.tuple #[]) ∧ w' = w := by
  cases t
  · cases h
  · cases h
  · simp only [Ty.id]
    have m1 := must_field_16
    go_enter Tryz.func79, Tryz.ntmps79
    go_wp2
    go_end0
    exact ⟨rfl, rfl⟩
  · cases h
  · cases h
  · cases h
  · cases h

set_option maxHeartbeats 1000000 in
theorem insistno_16 (t : Ty) (v : Value) (w : World) (h : t.acc = false) :
    Calls Tryz.prog 79 #[.iface t.id v, .int .u16 16] w fun e w' => (∃ pv, e = .panicked [{ v := .iface 15 pv, recovered := false }]) ∧ Below w.heap.size w w' := by
  cases t
  · simp only [Ty.id]
    obtain ⟨o, m1⟩ := must_label_16 v w
    have L : Below w.heap.size w (w.alloc o) := (Below.refl _ w).alloc (Nat.le_refl _) _
    go_enter Tryz.func79, Tryz.ntmps79
    go_wp2
    exact ⟨rfl, ⟨_, rfl⟩, L⟩
  · simp only [Ty.id]
    obtain ⟨o, m1⟩ := must_button_16 v w
    have L : Below w.heap.size w (w.alloc o) := (Below.refl _ w).alloc (Nat.le_refl _) _
    go_enter Tryz.func79, Tryz.ntmps79
    go_wp2
    exact ⟨rfl, ⟨_, rfl⟩, L⟩
  · cases h
  · simp only [Ty.id]
    obtain ⟨o, m1⟩ := must_box_16 v w
    have L : Below w.heap.size w (w.alloc o) := (Below.refl _ w).alloc (Nat.le_refl _) _
    go_enter Tryz.func79, Tryz.ntmps79
    go_wp2
    exact ⟨rfl, ⟨_, rfl⟩, L⟩
  · simp only [Ty.id]
    obtain ⟨o, m1⟩ := must_scroll_16 v w
    have L : Below w.heap.size w (w.alloc o) := (Below.refl _ w).alloc (Nat.le_refl _) _
    go_enter Tryz.func79, Tryz.ntmps79
    go_wp2
    exact ⟨rfl, ⟨_, rfl⟩, L⟩
  · simp only [Ty.id]
    obtain ⟨o, m1⟩ := must_canvas_16 v w
    have L : Below w.heap.size w (w.alloc o) := (Below.refl _ w).alloc (Nat.le_refl _) _
    go_enter Tryz.func79, Tryz.ntmps79
    go_wp2
    exact ⟨rfl, ⟨_, rfl⟩, L⟩
  · simp only [Ty.id]
    obtain ⟨o, m1⟩ := must_gap_16 v w
    have L : Below w.heap.size w (w.alloc o) := (Below.refl _ w).alloc (Nat.le_refl _) _
    go_enter Tryz.func79, Tryz.ntmps79
    go_wp2
    exact ⟨rfl, ⟨_, rfl⟩, L⟩

set_option maxHeartbeats 1000000 in
theorem insist_32 (t : Ty) (v : Value) (w : World) (h : t.hol = true) :
    Calls Tryz.prog 79 #[.iface t.id v, .int .u16 32] w fun e w' => e = .returned (.tuple #[]) ∧ w' = w := by
  cases t
  · cases h
  · cases h
  · cases h
  · simp only [Ty.id]
    have m1 := must_box_32
    go_enter Tryz.func79, Tryz.ntmps79
    go_wp2
    go_end0
    exact ⟨rfl, rfl⟩
  · simp only [Ty.id]
    have m1 := must_scroll_32
    go_enter Tryz.func79, Tryz.ntmps79
    go_wp2
    go_end0
    exact ⟨rfl, rfl⟩
  · cases h
  · cases h

set_option maxHeartbeats 1000000 in
theorem insistno_32 (t : Ty) (v : Value) (w : World) (h : t.hol = false) :
    Calls Tryz.prog 79 #[.iface t.id v, .int .u16 32] w fun e w' => (∃ pv, e = .panicked [{ v := .iface 15 pv, recovered := false }]) ∧ Below w.heap.size w w' := by
  cases t
  · simp only [Ty.id]
    obtain ⟨o, m1⟩ := must_label_32 v w
    have L : Below w.heap.size w (w.alloc o) := (Below.refl _ w).alloc (Nat.le_refl _) _
    go_enter Tryz.func79, Tryz.ntmps79
    go_wp2
    exact ⟨rfl, ⟨_, rfl⟩, L⟩
  · simp only [Ty.id]
    obtain ⟨o, m1⟩ := must_button_32 v w
    have L : Below w.heap.size w (w.alloc o) := (Below.refl _ w).alloc (Nat.le_refl _) _
    go_enter Tryz.func79, Tryz.ntmps79
    go_wp2
    exact ⟨rfl, ⟨_, rfl⟩, L⟩
  · simp only [Ty.id]
    obtain ⟨o, m1⟩ := must_field_32 v w
    have L : Below w.heap.size w (w.alloc o) := (Below.refl _ w).alloc (Nat.le_refl _) _
    go_enter Tryz.func79, Tryz.ntmps79
    go_wp2
    exact ⟨rfl, ⟨_, rfl⟩, L⟩
  · cases h
  · cases h
  · simp only [Ty.id]
    obtain ⟨o, m1⟩ := must_canvas_32 v w
    have L : Below w.heap.size w (w.alloc o) := (Below.refl _ w).alloc (Nat.le_refl _) _
    go_enter Tryz.func79, Tryz.ntmps79
    go_wp2
    exact ⟨rfl, ⟨_, rfl⟩, L⟩
  · simp only [Ty.id]
    obtain ⟨o, m1⟩ := must_gap_32 v w
    have L : Below w.heap.size w (w.alloc o) := (Below.refl _ w).alloc (Nat.le_refl _) _
    go_enter Tryz.func79, Tryz.ntmps79
    go_wp2
    exact ⟨rfl, ⟨_, rfl⟩, L⟩

/-- A bit of a mask. -/
def mb (m b : Int) : Bool := bits .and .u16 m b != 0
/-- The first ability from the one of a number on that a mask has and a type has not. -/
def misK (t : Ty) (m : Int) : Nat → Int
  | 0 => if mb m 1 && !t.mes then 1 else if mb m 2 && !t.pai then 2 else if mb m 4 && !t.foc then 4 else if mb m 8 && !t.scr then 8 else if mb m 16 && !t.acc then 16 else if mb m 32 && !t.hol then 32 else 0
  | 1 => if mb m 2 && !t.pai then 2 else if mb m 4 && !t.foc then 4 else if mb m 8 && !t.scr then 8 else if mb m 16 && !t.acc then 16 else if mb m 32 && !t.hol then 32 else 0
  | 2 => if mb m 4 && !t.foc then 4 else if mb m 8 && !t.scr then 8 else if mb m 16 && !t.acc then 16 else if mb m 32 && !t.hol then 32 else 0
  | 3 => if mb m 8 && !t.scr then 8 else if mb m 16 && !t.acc then 16 else if mb m 32 && !t.hol then 32 else 0
  | 4 => if mb m 16 && !t.acc then 16 else if mb m 32 && !t.hol then 32 else 0
  | 5 => if mb m 32 && !t.hol then 32 else 0
  | _ => 0

theorem catchM_idle (p : Addr) (w : World) :
    CallsD Tryz.prog 78 #[.pointer (some p)] .returning w fun e u' w' => e = .returned (.tuple #[]) ∧ u' = .returning ∧ w' = w := by
  refine callsD_of_wpS Tryz.func78 rfl fun c₀ cs hu => ?_
  apply wpS_seq
  apply wpS_region
  simp [wpOpsS, go_sem, recoverD, hu, Tryz.ntmps78, Exit.thenS]
  refine wpS_cond (t := false) (by simp [Act.eval, Array.replicate]) ?_
  simp only [Bool.false_eq_true, if_false]
  refine wpS_of_wp (wp_skip ?_)
  cases c₀
  simp_all [bodyPostS, results, Tryz.results78]

theorem catchM_dies (p : Addr) (u : TypeId) (x pv : Value) (older : List PanicEntry) (w : World) (hc : w.cell? p = some x) (hz : w.frozen? p = false) :
    CallsD Tryz.prog 78 #[.pointer (some p)] (.panicking ({ v := .iface u pv, recovered := false } :: older)) w fun e u' w' =>
      e = .returned (.tuple #[]) ∧ u' = .panicking ({ v := .iface u pv, recovered := true } :: older) ∧ w' = w.setCell p (.int .i64 61) := by
  refine callsD_of_wpS Tryz.func78 rfl fun c₀ cs hu => ?_
  apply wpS_seq
  apply wpS_region
  simp [wpOpsS, go_sem, recoverD, hu, Tryz.ntmps78, Exit.thenS]
  refine wpS_cond (t := true) (by simp [Act.eval, Array.replicate]) ?_
  simp only [if_true]
  apply wpS_region
  simp [wpOpsS, go_sem, hc, hz, bodyPostS, results, Tryz.results78]

set_option maxHeartbeats 4000000 in
theorem firstM_any (t : Ty) (v : Value) (m : Int) (w : World) :
    Calls Tryz.prog 42 #[.iface t.id v, .int .u16 m] w fun e w' => e = .returned (.tuple #[.int .u16 (misK t m 0), .int .i64 (if misK t m 0 = 0 then 0 else 61)]) ∧ Below w.heap.size w w' := by
  have hmf : ∀ (fn : Fn) (first cap : Array Value) (w : World), (Instr.makeFunc fn first cap).run Tryz.prog w = .ok (.func fn first cap) w := fun _ _ _ _ => rfl
  obtain ⟨r, hr⟩ : ∃ r, r = misK t m 0 := ⟨_, rfl⟩
  rw [← hr]
  have HR : Hid (r = misK t m 0) := hr
  clear hr
  go_enter_defers Tryz.func42, Tryz.ntmps42
  go_wp2_with fail
  have A := Blk.new w #[.int .i64 0] 39
  have L : Below w.heap.size w (w.alloc (.cells #[.int .i64 0] 39)) := (Below.refl _ w).alloc (Nat.le_refl _) _
  have HA : Hid (Blk (w.alloc (.cells #[.int .i64 0] 39)) w.heap.size #[.int .i64 0] 39 ∧ Below w.heap.size w (w.alloc (.cells #[.int .i64 0] 39))) := ⟨A, L⟩
  clear A L
  generalize w.alloc (.cells #[.int .i64 0] 39) = W at *
  go_loopw [4] (fun s wr => ∃ k : Nat, k ≤ 6 ∧ s = .int .u16 ((2 ^ k : Nat) : Int) ∧ r = misK t m k ∧ wr = W) (fun s _ => 65 - (intOf s).toNat)
  case atStart => exact ⟨0, Nat.zero_le _, rfl, HR.out, rfl⟩
  case round =>
    obtain ⟨k, hk, rfl, hq, rfl⟩ := hrel
    have HQ : Hid (r = misK t m k) := hq
    clear hq
    have ck : k = 0 ∨ k = 1 ∨ k = 2 ∨ k = 3 ∨ k = 4 ∨ k = 5 ∨ k = 6 := by omega
    rcases ck with rfl | rfl | rfl | rfl | rfl | rfl | rfl

    · clear hk
      cases hb : mb m 1
      · have hb' : (bits .and .u16 m 1 != 0) = false := hb
        have HB : Hid (mb m 1 = false) := hb
        clear hb
        go_wp2_with fail
        go_roundw
        case rel => exact ⟨0 + 1, by omega, by rfl, by have h1 := HQ.out; have h2 := HB.out; simpa [misK, h2] using h1, by first | trivial | rfl⟩
        case measure => simp [intOf]
      · have hb' : (bits .and .u16 m 1 != 0) = true := hb
        have HB : Hid (mb m 1 = true) := hb
        clear hb
        cases ht : t.mes
        · have hI := insistno_1 t v wr ht
          have HT : Hid (t.mes = false) := ht
          clear ht
          go_wp2_with fail
          refine hI.mono ?_
          rintro e w1 ⟨⟨pv, rfl⟩, hb⟩
          obtain ⟨A, L⟩ := HA.out
          replace A := A.below hb
          replace L := L.trans (hb.mono L.size)
          refine leaves_cons (f := 78) (args := #[.pointer (some ⟨w.heap.size, 0, none⟩)]) (by simp) (by simp [go_sem]) ?_
          refine (catchM_dies _ _ (.int .i64 0) pv [] _ (A.cell 0) (A.frozen 0)).mono ?_
          rintro e u' w'' ⟨rfl, rfl, rfl⟩
          have B := (A.put1 (.int .i64 61)).cell 0
          have hr : r = 1 := by have h1 := HQ.out; have h2 := HB.out; have h3 := HT.out; simpa [misK, h2, h3] using h1
          refine ⟨.tuple #[.int .u16 1, .int .i64 61], ?_, by rw [hr]; rfl, L.setCell (Nat.le_refl _) _⟩
          simp [results, Tryz.results42, go_sem, B]
        · have hI := insist_1 t v wr ht
          have HT : Hid (t.mes = true) := ht
          clear ht
          go_wp2_with fail
          refine hI.mono ?_
          rintro e w1 ⟨rfl, rfl⟩
          go_wp2_with fail
          go_roundw
          case rel => exact ⟨0 + 1, by omega, by rfl, by have h1 := HQ.out; have h2 := HT.out; simpa [misK, h2] using h1, by first | trivial | rfl⟩
          case measure => simp [intOf]
    · clear hk
      cases hb : mb m 2
      · have hb' : (bits .and .u16 m 2 != 0) = false := hb
        have HB : Hid (mb m 2 = false) := hb
        clear hb
        go_wp2_with fail
        go_roundw
        case rel => exact ⟨1 + 1, by omega, by rfl, by have h1 := HQ.out; have h2 := HB.out; simpa [misK, h2] using h1, by first | trivial | rfl⟩
        case measure => simp [intOf]
      · have hb' : (bits .and .u16 m 2 != 0) = true := hb
        have HB : Hid (mb m 2 = true) := hb
        clear hb
        cases ht : t.pai
        · have hI := insistno_2 t v wr ht
          have HT : Hid (t.pai = false) := ht
          clear ht
          go_wp2_with fail
          refine hI.mono ?_
          rintro e w1 ⟨⟨pv, rfl⟩, hb⟩
          obtain ⟨A, L⟩ := HA.out
          replace A := A.below hb
          replace L := L.trans (hb.mono L.size)
          refine leaves_cons (f := 78) (args := #[.pointer (some ⟨w.heap.size, 0, none⟩)]) (by simp) (by simp [go_sem]) ?_
          refine (catchM_dies _ _ (.int .i64 0) pv [] _ (A.cell 0) (A.frozen 0)).mono ?_
          rintro e u' w'' ⟨rfl, rfl, rfl⟩
          have B := (A.put1 (.int .i64 61)).cell 0
          have hr : r = 2 := by have h1 := HQ.out; have h2 := HB.out; have h3 := HT.out; simpa [misK, h2, h3] using h1
          refine ⟨.tuple #[.int .u16 2, .int .i64 61], ?_, by rw [hr]; rfl, L.setCell (Nat.le_refl _) _⟩
          simp [results, Tryz.results42, go_sem, B]
        · have hI := insist_2 t v wr ht
          have HT : Hid (t.pai = true) := ht
          clear ht
          go_wp2_with fail
          refine hI.mono ?_
          rintro e w1 ⟨rfl, rfl⟩
          go_wp2_with fail
          go_roundw
          case rel => exact ⟨1 + 1, by omega, by rfl, by have h1 := HQ.out; have h2 := HT.out; simpa [misK, h2] using h1, by first | trivial | rfl⟩
          case measure => simp [intOf]
    · clear hk
      cases hb : mb m 4
      · have hb' : (bits .and .u16 m 4 != 0) = false := hb
        have HB : Hid (mb m 4 = false) := hb
        clear hb
        go_wp2_with fail
        go_roundw
        case rel => exact ⟨2 + 1, by omega, by rfl, by have h1 := HQ.out; have h2 := HB.out; simpa [misK, h2] using h1, by first | trivial | rfl⟩
        case measure => simp [intOf]
      · have hb' : (bits .and .u16 m 4 != 0) = true := hb
        have HB : Hid (mb m 4 = true) := hb
        clear hb
        cases ht : t.foc
        · have hI := insistno_4 t v wr ht
          have HT : Hid (t.foc = false) := ht
          clear ht
          go_wp2_with fail
          refine hI.mono ?_
          rintro e w1 ⟨⟨pv, rfl⟩, hb⟩
          obtain ⟨A, L⟩ := HA.out
          replace A := A.below hb
          replace L := L.trans (hb.mono L.size)
          refine leaves_cons (f := 78) (args := #[.pointer (some ⟨w.heap.size, 0, none⟩)]) (by simp) (by simp [go_sem]) ?_
          refine (catchM_dies _ _ (.int .i64 0) pv [] _ (A.cell 0) (A.frozen 0)).mono ?_
          rintro e u' w'' ⟨rfl, rfl, rfl⟩
          have B := (A.put1 (.int .i64 61)).cell 0
          have hr : r = 4 := by have h1 := HQ.out; have h2 := HB.out; have h3 := HT.out; simpa [misK, h2, h3] using h1
          refine ⟨.tuple #[.int .u16 4, .int .i64 61], ?_, by rw [hr]; rfl, L.setCell (Nat.le_refl _) _⟩
          simp [results, Tryz.results42, go_sem, B]
        · have hI := insist_4 t v wr ht
          have HT : Hid (t.foc = true) := ht
          clear ht
          go_wp2_with fail
          refine hI.mono ?_
          rintro e w1 ⟨rfl, rfl⟩
          go_wp2_with fail
          go_roundw
          case rel => exact ⟨2 + 1, by omega, by rfl, by have h1 := HQ.out; have h2 := HT.out; simpa [misK, h2] using h1, by first | trivial | rfl⟩
          case measure => simp [intOf]
    · clear hk
      cases hb : mb m 8
      · have hb' : (bits .and .u16 m 8 != 0) = false := hb
        have HB : Hid (mb m 8 = false) := hb
        clear hb
        go_wp2_with fail
        go_roundw
        case rel => exact ⟨3 + 1, by omega, by rfl, by have h1 := HQ.out; have h2 := HB.out; simpa [misK, h2] using h1, by first | trivial | rfl⟩
        case measure => simp [intOf]
      · have hb' : (bits .and .u16 m 8 != 0) = true := hb
        have HB : Hid (mb m 8 = true) := hb
        clear hb
        cases ht : t.scr
        · have hI := insistno_8 t v wr ht
          have HT : Hid (t.scr = false) := ht
          clear ht
          go_wp2_with fail
          refine hI.mono ?_
          rintro e w1 ⟨⟨pv, rfl⟩, hb⟩
          obtain ⟨A, L⟩ := HA.out
          replace A := A.below hb
          replace L := L.trans (hb.mono L.size)
          refine leaves_cons (f := 78) (args := #[.pointer (some ⟨w.heap.size, 0, none⟩)]) (by simp) (by simp [go_sem]) ?_
          refine (catchM_dies _ _ (.int .i64 0) pv [] _ (A.cell 0) (A.frozen 0)).mono ?_
          rintro e u' w'' ⟨rfl, rfl, rfl⟩
          have B := (A.put1 (.int .i64 61)).cell 0
          have hr : r = 8 := by have h1 := HQ.out; have h2 := HB.out; have h3 := HT.out; simpa [misK, h2, h3] using h1
          refine ⟨.tuple #[.int .u16 8, .int .i64 61], ?_, by rw [hr]; rfl, L.setCell (Nat.le_refl _) _⟩
          simp [results, Tryz.results42, go_sem, B]
        · have hI := insist_8 t v wr ht
          have HT : Hid (t.scr = true) := ht
          clear ht
          go_wp2_with fail
          refine hI.mono ?_
          rintro e w1 ⟨rfl, rfl⟩
          go_wp2_with fail
          go_roundw
          case rel => exact ⟨3 + 1, by omega, by rfl, by have h1 := HQ.out; have h2 := HT.out; simpa [misK, h2] using h1, by first | trivial | rfl⟩
          case measure => simp [intOf]
    · clear hk
      cases hb : mb m 16
      · have hb' : (bits .and .u16 m 16 != 0) = false := hb
        have HB : Hid (mb m 16 = false) := hb
        clear hb
        go_wp2_with fail
        go_roundw
        case rel => exact ⟨4 + 1, by omega, by rfl, by have h1 := HQ.out; have h2 := HB.out; simpa [misK, h2] using h1, by first | trivial | rfl⟩
        case measure => simp [intOf]
      · have hb' : (bits .and .u16 m 16 != 0) = true := hb
        have HB : Hid (mb m 16 = true) := hb
        clear hb
        cases ht : t.acc
        · have hI := insistno_16 t v wr ht
          have HT : Hid (t.acc = false) := ht
          clear ht
          go_wp2_with fail
          refine hI.mono ?_
          rintro e w1 ⟨⟨pv, rfl⟩, hb⟩
          obtain ⟨A, L⟩ := HA.out
          replace A := A.below hb
          replace L := L.trans (hb.mono L.size)
          refine leaves_cons (f := 78) (args := #[.pointer (some ⟨w.heap.size, 0, none⟩)]) (by simp) (by simp [go_sem]) ?_
          refine (catchM_dies _ _ (.int .i64 0) pv [] _ (A.cell 0) (A.frozen 0)).mono ?_
          rintro e u' w'' ⟨rfl, rfl, rfl⟩
          have B := (A.put1 (.int .i64 61)).cell 0
          have hr : r = 16 := by have h1 := HQ.out; have h2 := HB.out; have h3 := HT.out; simpa [misK, h2, h3] using h1
          refine ⟨.tuple #[.int .u16 16, .int .i64 61], ?_, by rw [hr]; rfl, L.setCell (Nat.le_refl _) _⟩
          simp [results, Tryz.results42, go_sem, B]
        · have hI := insist_16 t v wr ht
          have HT : Hid (t.acc = true) := ht
          clear ht
          go_wp2_with fail
          refine hI.mono ?_
          rintro e w1 ⟨rfl, rfl⟩
          go_wp2_with fail
          go_roundw
          case rel => exact ⟨4 + 1, by omega, by rfl, by have h1 := HQ.out; have h2 := HT.out; simpa [misK, h2] using h1, by first | trivial | rfl⟩
          case measure => simp [intOf]
    · clear hk
      cases hb : mb m 32
      · have hb' : (bits .and .u16 m 32 != 0) = false := hb
        have HB : Hid (mb m 32 = false) := hb
        clear hb
        go_wp2_with fail
        go_roundw
        case rel => exact ⟨5 + 1, by omega, by rfl, by have h1 := HQ.out; have h2 := HB.out; simpa [misK, h2] using h1, by first | trivial | rfl⟩
        case measure => simp [intOf]
      · have hb' : (bits .and .u16 m 32 != 0) = true := hb
        have HB : Hid (mb m 32 = true) := hb
        clear hb
        cases ht : t.hol
        · have hI := insistno_32 t v wr ht
          have HT : Hid (t.hol = false) := ht
          clear ht
          go_wp2_with fail
          refine hI.mono ?_
          rintro e w1 ⟨⟨pv, rfl⟩, hb⟩
          obtain ⟨A, L⟩ := HA.out
          replace A := A.below hb
          replace L := L.trans (hb.mono L.size)
          refine leaves_cons (f := 78) (args := #[.pointer (some ⟨w.heap.size, 0, none⟩)]) (by simp) (by simp [go_sem]) ?_
          refine (catchM_dies _ _ (.int .i64 0) pv [] _ (A.cell 0) (A.frozen 0)).mono ?_
          rintro e u' w'' ⟨rfl, rfl, rfl⟩
          have B := (A.put1 (.int .i64 61)).cell 0
          have hr : r = 32 := by have h1 := HQ.out; have h2 := HB.out; have h3 := HT.out; simpa [misK, h2, h3] using h1
          refine ⟨.tuple #[.int .u16 32, .int .i64 61], ?_, by rw [hr]; rfl, L.setCell (Nat.le_refl _) _⟩
          simp [results, Tryz.results42, go_sem, B]
        · have hI := insist_32 t v wr ht
          have HT : Hid (t.hol = true) := ht
          clear ht
          go_wp2_with fail
          refine hI.mono ?_
          rintro e w1 ⟨rfl, rfl⟩
          go_wp2_with fail
          go_roundw
          case rel => exact ⟨5 + 1, by omega, by rfl, by have h1 := HQ.out; have h2 := HT.out; simpa [misK, h2] using h1, by first | trivial | rfl⟩
          case measure => simp [intOf]
    · have hr : r = 0 := HQ.out
      obtain ⟨A, L⟩ := HA.out
      have a0 := A.cell 0
      have fa := A.frozen
      have HL : Hid (Below w.heap.size w wr ∧ Blk wr w.heap.size #[.int .i64 0] 39) := ⟨L, A⟩
      clear A L hk HA
      go_wp2_with fail
      refine leaves_cons (f := 78) (args := #[.pointer (some ⟨w.heap.size, 0, none⟩)]) (by simp) (by simp [go_sem]) ?_
      refine (catchM_idle _ _).mono ?_
      rintro e u' w'' ⟨rfl, rfl, rfl⟩
      have B := (HL.out.2.put1 (.int .i64 0)).cell 0
      refine ⟨.tuple #[.int .u16 0, .int .i64 0], ?_, by first | rfl | (rw [hr]; rfl), HL.out.1.setCell (Nat.le_refl _) _⟩
      simp [results, Tryz.results42, go_sem, B]

end Go.Proofs.YtdbafcldpleogaaGreatDoor
