/-
  answered: what a part's method answers, where it does not panic; the methods that are promoted.
-/
import Derived.Test.YtdbafcldpleogaaGreatDoorUB
import Derived.Test.YtdbafcldpleogaaGreatDoorRF
import Derived.Test.YtdbafcldpleogaaGreatDoorW3
namespace Go.Proofs.YtdbafcldpleogaaGreatDoor
open Go.RowKit

theorem me_label_Measure (f b : Nat) (x0 x1 x2 x3 : Int) (w : World) (h0 : w.cell? ⟨b, 2, none⟩ = some (.int .i64 x0)) (h1 : w.cell? ⟨b, 3, none⟩ = some (.int .i64 x1)) (h2 : w.cell? ⟨b, 4, none⟩ = some (.int .i64 x2)) (h3 : w.cell? ⟨b, 5, none⟩ = some (.int .i64 x3)) :
    (method (f + 1) 156 (.pointer (some ⟨b, 0, none⟩)) "Measure").run Tryz.prog w = .ok (153, .agg #[(.int .i64 x0), (.int .i64 x1), (.int .i64 x2), (.int .i64 x3)]) w := by
  have e : (method (f + 1) 156 (.pointer (some ⟨b, 0, none⟩)) "Measure").run Tryz.prog w = (do let v ← loadVar 149 ⟨b, 0 + 2, none⟩; pure (153, v) : Sem (FuncId × Value)).run Tryz.prog w := by kernel_rfl
  rw [e]
  simp [go_sem, h0, h1, h2, h3]
theorem me_label_Strokes (f b : Nat) (s : ByteArray) (w : World) (h0 : w.cell? ⟨b, 6, none⟩ = some (.string s)) :
    (method (f + 1) 156 (.pointer (some ⟨b, 0, none⟩)) "Strokes").run Tryz.prog w = .ok (155, .agg #[(.string s)]) w := by
  have e : (method (f + 1) 156 (.pointer (some ⟨b, 0, none⟩)) "Strokes").run Tryz.prog w = (do let v ← loadVar 153 ⟨b, 0 + 6, none⟩; pure (155, v) : Sem (FuncId × Value)).run Tryz.prog w := by kernel_rfl
  rw [e]
  simp [go_sem, h0]
theorem me_button_Measure (f b : Nat) (x0 x1 x2 x3 : Int) (w : World) (h0 : w.cell? ⟨b, 2, none⟩ = some (.int .i64 x0)) (h1 : w.cell? ⟨b, 3, none⟩ = some (.int .i64 x1)) (h2 : w.cell? ⟨b, 4, none⟩ = some (.int .i64 x2)) (h3 : w.cell? ⟨b, 5, none⟩ = some (.int .i64 x3)) :
    (method (f + 1) 159 (.pointer (some ⟨b, 0, none⟩)) "Measure").run Tryz.prog w = .ok (153, .agg #[(.int .i64 x0), (.int .i64 x1), (.int .i64 x2), (.int .i64 x3)]) w := by
  have e : (method (f + 1) 159 (.pointer (some ⟨b, 0, none⟩)) "Measure").run Tryz.prog w = (do let v ← loadVar 149 ⟨b, 0 + 2, none⟩; pure (153, v) : Sem (FuncId × Value)).run Tryz.prog w := by kernel_rfl
  rw [e]
  simp [go_sem, h0, h1, h2, h3]
theorem me_button_Strokes (f b : Nat) (s : ByteArray) (w : World) (h0 : w.cell? ⟨b, 6, none⟩ = some (.string s)) :
    (method (f + 1) 159 (.pointer (some ⟨b, 0, none⟩)) "Strokes").run Tryz.prog w = .ok (155, .agg #[(.string s)]) w := by
  have e : (method (f + 1) 159 (.pointer (some ⟨b, 0, none⟩)) "Strokes").run Tryz.prog w = (do let v ← loadVar 153 ⟨b, 0 + 6, none⟩; pure (155, v) : Sem (FuncId × Value)).run Tryz.prog w := by kernel_rfl
  rw [e]
  simp [go_sem, h0]
theorem me_button_Order (f b : Nat) (x : Int) (w : World) (h0 : w.cell? ⟨b, 7, none⟩ = some (.int .i64 x)) :
    (method (f + 1) 159 (.pointer (some ⟨b, 0, none⟩)) "Order").run Tryz.prog w = .ok (163, .agg #[(.int .i64 x)]) w := by
  have e : (method (f + 1) 159 (.pointer (some ⟨b, 0, none⟩)) "Order").run Tryz.prog w = (do let v ← loadVar 155 ⟨b, 0 + 7, none⟩; pure (163, v) : Sem (FuncId × Value)).run Tryz.prog w := by kernel_rfl
  rw [e]
  simp [go_sem, h0]
theorem na_button_Order (f b : Nat) (w : World) : (nilAhead (f + 1) 159 (.pointer (some ⟨b, 0, none⟩)) "Order").run Tryz.prog w = .ok (some false) w := by kernel_rfl
theorem me_field_Measure (f b : Nat) (x0 x1 x2 x3 : Int) (w : World) (h0 : w.cell? ⟨b, 2, none⟩ = some (.int .i64 x0)) (h1 : w.cell? ⟨b, 3, none⟩ = some (.int .i64 x1)) (h2 : w.cell? ⟨b, 4, none⟩ = some (.int .i64 x2)) (h3 : w.cell? ⟨b, 5, none⟩ = some (.int .i64 x3)) :
    (method (f + 1) 162 (.pointer (some ⟨b, 0, none⟩)) "Measure").run Tryz.prog w = .ok (153, .agg #[(.int .i64 x0), (.int .i64 x1), (.int .i64 x2), (.int .i64 x3)]) w := by
  have e : (method (f + 1) 162 (.pointer (some ⟨b, 0, none⟩)) "Measure").run Tryz.prog w = (do let v ← loadVar 149 ⟨b, 0 + 2, none⟩; pure (153, v) : Sem (FuncId × Value)).run Tryz.prog w := by kernel_rfl
  rw [e]
  simp [go_sem, h0, h1, h2, h3]
theorem me_field_Strokes (f b : Nat) (s : ByteArray) (w : World) (h0 : w.cell? ⟨b, 6, none⟩ = some (.string s)) :
    (method (f + 1) 162 (.pointer (some ⟨b, 0, none⟩)) "Strokes").run Tryz.prog w = .ok (155, .agg #[(.string s)]) w := by
  have e : (method (f + 1) 162 (.pointer (some ⟨b, 0, none⟩)) "Strokes").run Tryz.prog w = (do let v ← loadVar 153 ⟨b, 0 + 6, none⟩; pure (155, v) : Sem (FuncId × Value)).run Tryz.prog w := by kernel_rfl
  rw [e]
  simp [go_sem, h0]
theorem me_field_Order (f b : Nat) (x : Int) (w : World) (h0 : w.cell? ⟨b, 7, none⟩ = some (.int .i64 x)) :
    (method (f + 1) 162 (.pointer (some ⟨b, 0, none⟩)) "Order").run Tryz.prog w = .ok (163, .agg #[(.int .i64 x)]) w := by
  have e : (method (f + 1) 162 (.pointer (some ⟨b, 0, none⟩)) "Order").run Tryz.prog w = (do let v ← loadVar 155 ⟨b, 0 + 7, none⟩; pure (163, v) : Sem (FuncId × Value)).run Tryz.prog w := by kernel_rfl
  rw [e]
  simp [go_sem, h0]
theorem me_field_Takes (f b : Nat) (s : ByteArray) (w : World) (h0 : w.cell? ⟨b, 8, none⟩ = some (.string s)) :
    (method (f + 1) 162 (.pointer (some ⟨b, 0, none⟩)) "Takes").run Tryz.prog w = .ok (170, .agg #[(.string s)]) w := by
  have e : (method (f + 1) 162 (.pointer (some ⟨b, 0, none⟩)) "Takes").run Tryz.prog w = (do let v ← loadVar 164 ⟨b, 0 + 8, none⟩; pure (170, v) : Sem (FuncId × Value)).run Tryz.prog w := by kernel_rfl
  rw [e]
  simp [go_sem, h0]
theorem na_field_Order (f b : Nat) (w : World) : (nilAhead (f + 1) 162 (.pointer (some ⟨b, 0, none⟩)) "Order").run Tryz.prog w = .ok (some false) w := by kernel_rfl
theorem me_box_Measure (f b : Nat) (x0 x1 x2 x3 : Int) (w : World) (h0 : w.cell? ⟨b, 2, none⟩ = some (.int .i64 x0)) (h1 : w.cell? ⟨b, 3, none⟩ = some (.int .i64 x1)) (h2 : w.cell? ⟨b, 4, none⟩ = some (.int .i64 x2)) (h3 : w.cell? ⟨b, 5, none⟩ = some (.int .i64 x3)) :
    (method (f + 1) 167 (.pointer (some ⟨b, 0, none⟩)) "Measure").run Tryz.prog w = .ok (153, .agg #[(.int .i64 x0), (.int .i64 x1), (.int .i64 x2), (.int .i64 x3)]) w := by
  have e : (method (f + 1) 167 (.pointer (some ⟨b, 0, none⟩)) "Measure").run Tryz.prog w = (do let v ← loadVar 149 ⟨b, 0 + 2, none⟩; pure (153, v) : Sem (FuncId × Value)).run Tryz.prog w := by kernel_rfl
  rw [e]
  simp [go_sem, h0, h1, h2, h3]
theorem me_box_Parts (f b : Nat) (oa : Option Addr) (n c : Nat) (w : World) (h0 : w.cell? ⟨b, 6, none⟩ = some (.slice oa n c)) :
    (method (f + 1) 167 (.pointer (some ⟨b, 0, none⟩)) "Parts").run Tryz.prog w = .ok (173, .agg #[(.slice oa n c)]) w := by
  have e : (method (f + 1) 167 (.pointer (some ⟨b, 0, none⟩)) "Parts").run Tryz.prog w = (do let v ← loadVar 169 ⟨b, 0 + 6, none⟩; pure (173, v) : Sem (FuncId × Value)).run Tryz.prog w := by kernel_rfl
  rw [e]
  simp [go_sem, h0]
theorem me_scroll_Measure (f b : Nat) (x0 x1 x2 x3 : Int) (w : World) (h0 : w.cell? ⟨b, 2, none⟩ = some (.int .i64 x0)) (h1 : w.cell? ⟨b, 3, none⟩ = some (.int .i64 x1)) (h2 : w.cell? ⟨b, 4, none⟩ = some (.int .i64 x2)) (h3 : w.cell? ⟨b, 5, none⟩ = some (.int .i64 x3)) :
    (method (f + 1) 172 (.pointer (some ⟨b, 0, none⟩)) "Measure").run Tryz.prog w = .ok (153, .agg #[(.int .i64 x0), (.int .i64 x1), (.int .i64 x2), (.int .i64 x3)]) w := by
  have e : (method (f + 1) 172 (.pointer (some ⟨b, 0, none⟩)) "Measure").run Tryz.prog w = (do let v ← loadVar 149 ⟨b, 0 + 2, none⟩; pure (153, v) : Sem (FuncId × Value)).run Tryz.prog w := by kernel_rfl
  rw [e]
  simp [go_sem, h0, h1, h2, h3]
theorem me_scroll_Strokes (f b : Nat) (s : ByteArray) (w : World) (h0 : w.cell? ⟨b, 6, none⟩ = some (.string s)) :
    (method (f + 1) 172 (.pointer (some ⟨b, 0, none⟩)) "Strokes").run Tryz.prog w = .ok (155, .agg #[(.string s)]) w := by
  have e : (method (f + 1) 172 (.pointer (some ⟨b, 0, none⟩)) "Strokes").run Tryz.prog w = (do let v ← loadVar 153 ⟨b, 0 + 6, none⟩; pure (155, v) : Sem (FuncId × Value)).run Tryz.prog w := by kernel_rfl
  rw [e]
  simp [go_sem, h0]
theorem me_scroll_Order (f b : Nat) (x : Int) (w : World) (h0 : w.cell? ⟨b, 7, none⟩ = some (.int .i64 x)) :
    (method (f + 1) 172 (.pointer (some ⟨b, 0, none⟩)) "Order").run Tryz.prog w = .ok (163, .agg #[(.int .i64 x)]) w := by
  have e : (method (f + 1) 172 (.pointer (some ⟨b, 0, none⟩)) "Order").run Tryz.prog w = (do let v ← loadVar 155 ⟨b, 0 + 7, none⟩; pure (163, v) : Sem (FuncId × Value)).run Tryz.prog w := by kernel_rfl
  rw [e]
  simp [go_sem, h0]
theorem me_scroll_Offset (f b : Nat) (x y : Int) (w : World) (h0 : w.cell? ⟨b, 8, none⟩ = some (.int .i64 x)) (h1 : w.cell? ⟨b, 9, none⟩ = some (.int .i64 y)) :
    (method (f + 1) 172 (.pointer (some ⟨b, 0, none⟩)) "Offset").run Tryz.prog w = .ok (176, .agg #[(.int .i64 x), (.int .i64 y)]) w := by
  have e : (method (f + 1) 172 (.pointer (some ⟨b, 0, none⟩)) "Offset").run Tryz.prog w = (do let v ← loadVar 174 ⟨b, 0 + 8, none⟩; pure (176, v) : Sem (FuncId × Value)).run Tryz.prog w := by kernel_rfl
  rw [e]
  simp [go_sem, h0, h1]
theorem me_scroll_Parts (f b : Nat) (oa : Option Addr) (n c : Nat) (w : World) (h0 : w.cell? ⟨b, 10, none⟩ = some (.slice oa n c)) :
    (method (f + 1) 172 (.pointer (some ⟨b, 0, none⟩)) "Parts").run Tryz.prog w = .ok (173, .agg #[(.slice oa n c)]) w := by
  have e : (method (f + 1) 172 (.pointer (some ⟨b, 0, none⟩)) "Parts").run Tryz.prog w = (do let v ← loadVar 169 ⟨b, 0 + 10, none⟩; pure (173, v) : Sem (FuncId × Value)).run Tryz.prog w := by kernel_rfl
  rw [e]
  simp [go_sem, h0]
theorem na_scroll_Order (f b : Nat) (w : World) : (nilAhead (f + 1) 172 (.pointer (some ⟨b, 0, none⟩)) "Order").run Tryz.prog w = .ok (some false) w := by kernel_rfl
theorem na_scroll_Offset (f b : Nat) (w : World) : (nilAhead (f + 1) 172 (.pointer (some ⟨b, 0, none⟩)) "Offset").run Tryz.prog w = .ok (some false) w := by kernel_rfl
theorem me_canvas_Strokes (f b : Nat) (s : ByteArray) (w : World) (h0 : w.cell? ⟨b, 2, none⟩ = some (.string s)) :
    (method (f + 1) 177 (.pointer (some ⟨b, 0, none⟩)) "Strokes").run Tryz.prog w = .ok (155, .agg #[(.string s)]) w := by
  have e : (method (f + 1) 177 (.pointer (some ⟨b, 0, none⟩)) "Strokes").run Tryz.prog w = (do let v ← loadVar 153 ⟨b, 0 + 2, none⟩; pure (155, v) : Sem (FuncId × Value)).run Tryz.prog w := by kernel_rfl
  rw [e]
  simp [go_sem, h0]
theorem me_gap_Measure (f b : Nat) (x0 x1 x2 x3 : Int) (w : World) (h0 : w.cell? ⟨b, 2, none⟩ = some (.int .i64 x0)) (h1 : w.cell? ⟨b, 3, none⟩ = some (.int .i64 x1)) (h2 : w.cell? ⟨b, 4, none⟩ = some (.int .i64 x2)) (h3 : w.cell? ⟨b, 5, none⟩ = some (.int .i64 x3)) :
    (method (f + 1) 180 (.pointer (some ⟨b, 0, none⟩)) "Measure").run Tryz.prog w = .ok (153, .agg #[(.int .i64 x0), (.int .i64 x1), (.int .i64 x2), (.int .i64 x3)]) w := by
  have e : (method (f + 1) 180 (.pointer (some ⟨b, 0, none⟩)) "Measure").run Tryz.prog w = (do let v ← loadVar 149 ⟨b, 0 + 2, none⟩; pure (153, v) : Sem (FuncId × Value)).run Tryz.prog w := by kernel_rfl
  rw [e]
  simp [go_sem, h0, h1, h2, h3]

theorem catch_size (p : Addr) (w : World) :
    CallsD Tryz.prog 84 #[.pointer (some p)] .returning w fun e u' w' => e = .returned (.tuple #[]) ∧ u' = .returning ∧ w' = w := by
  refine callsD_of_wpS Tryz.func84 rfl fun c₀ cs hu => ?_
  apply wpS_seq
  apply wpS_region
  simp [wpOpsS, go_sem, recoverD, hu, Tryz.ntmps84, Exit.thenS]
  refine wpS_cond (t := false) (by simp [Act.eval, Array.replicate]) ?_
  simp only [Bool.false_eq_true, if_false]
  refine wpS_of_wp (wp_skip ?_)
  cases c₀
  simp_all [bodyPostS, results, Tryz.results84]

set_option maxHeartbeats 1000000 in
theorem ans_size (c0 c1 : Value) (x y : Int) (w : World)
    (hf : ∀ w', Below w.heap.size w w' → Calls Tryz.prog 59 #[c0, c1] w' fun e w'' => e = .returned (.agg #[.int .i64 x, .int .i64 y]) ∧ Below w'.heap.size w' w'') :
    Calls Tryz.prog 58 #[.func (.func 59) #[] #[c0, c1]] w fun e w' => e = .returned (.tuple #[.agg #[.int .i64 x, .int .i64 y], .int .i64 0]) ∧ Below w.heap.size w w' := by
  have hmf : ∀ (fn : Fn) (first cap : Array Value) (w : World), (Instr.makeFunc fn first cap).run Tryz.prog w = .ok (.func fn first cap) w := fun _ _ _ _ => rfl
  have HF : Hid (∀ w', Below w.heap.size w w' → Calls Tryz.prog 59 #[c0, c1] w' fun e w'' => e = .returned (.agg #[.int .i64 x, .int .i64 y]) ∧ Below w'.heap.size w' w'') := hf
  clear hf
  go_enter_defers Tryz.func58, Tryz.ntmps58
  go_wp2_with fail
  obtain ⟨W, hW⟩ : ∃ W, W = (w.alloc (.cells #[.int .i64 0, .int .i64 0] 23)).alloc (.cells #[.int .i64 0] 39) := ⟨_, rfl⟩
  rw [← hW]
  have A : Blk W w.heap.size #[.int .i64 0, .int .i64 0] 23 := by rw [hW]; exact (Blk.new _ _ _).alloc _
  have B : Blk W (w.heap.size + 1) #[.int .i64 0] 39 := by
    rw [hW]
    have := Blk.new (w.alloc (.cells #[.int .i64 0, .int .i64 0] 23)) #[.int .i64 0] 39
    rwa [World.size_alloc] at this
  have L : Below w.heap.size w W := by rw [hW]; exact ((Below.refl _ w).alloc (Nat.le_refl _) _).alloc (by simp) _
  clear hW
  refine (HF.out W L).mono ?_
  rintro e w1 ⟨rfl, hb⟩
  replace A := A.below hb
  replace B := B.below hb
  replace L := L.trans (hb.mono L.size)
  clear hb HF
  have a0 := A.cell 0
  have a1 := A.cell 1
  have b0 := B.cell 0
  have fa := A.frozen
  have fb := B.frozen
  have HL : Hid (Below w.heap.size w w1) := L
  clear A B L
  go_wp2_with fail
  refine leaves_cons (f := 84) (args := #[.pointer (some ⟨w.heap.size + 1, 0, none⟩)]) (by simp) (by simp [go_sem]) ?_
  refine (catch_size _ _).mono ?_
  rintro e u' w'' ⟨rfl, rfl, rfl⟩
  refine ⟨.tuple #[.agg #[.int .i64 x, .int .i64 y], .int .i64 0], ?_, rfl, ?_⟩
  · simp [results, Tryz.results58, go_sem, a0, a1, b0]
  · exact ((HL.out.setCell (Nat.le_refl _) _).setCell (Nat.le_refl _) _).setCell (Nat.le_succ _) _

theorem catch_strokes (p : Addr) (w : World) :
    CallsD Tryz.prog 88 #[.pointer (some p)] .returning w fun e u' w' => e = .returned (.tuple #[]) ∧ u' = .returning ∧ w' = w := by
  refine callsD_of_wpS Tryz.func88 rfl fun c₀ cs hu => ?_
  apply wpS_seq
  apply wpS_region
  simp [wpOpsS, go_sem, recoverD, hu, Tryz.ntmps88, Exit.thenS]
  refine wpS_cond (t := false) (by simp [Act.eval, Array.replicate]) ?_
  simp only [Bool.false_eq_true, if_false]
  refine wpS_of_wp (wp_skip ?_)
  cases c₀
  simp_all [bodyPostS, results, Tryz.results88]

set_option maxHeartbeats 1000000 in
theorem ans_strokes (c0 c1 c2 : Value) (oa : Option Addr) (n c : Nat) (w : World)
    (hf : ∀ w', Below w.heap.size w w' → Calls Tryz.prog 67 #[c0, c1, c2] w' fun e w'' => e = .returned (.slice oa n c) ∧ Below w'.heap.size w' w'') :
    Calls Tryz.prog 66 #[.func (.func 67) #[] #[c0, c1, c2]] w fun e w' => e = .returned (.tuple #[(.slice oa n c), .int .i64 0]) ∧ Below w.heap.size w w' := by
  have hmf : ∀ (fn : Fn) (first cap : Array Value) (w : World), (Instr.makeFunc fn first cap).run Tryz.prog w = .ok (.func fn first cap) w := fun _ _ _ _ => rfl
  have HF : Hid (∀ w', Below w.heap.size w w' → Calls Tryz.prog 67 #[c0, c1, c2] w' fun e w'' => e = .returned (.slice oa n c) ∧ Below w'.heap.size w' w'') := hf
  clear hf
  go_enter_defers Tryz.func66, Tryz.ntmps66
  go_wp2_with fail
  obtain ⟨W, hW⟩ : ∃ W, W = w.alloc (.cells #[.int .i64 0] 39) := ⟨_, rfl⟩
  rw [← hW]
  have B : Blk W w.heap.size #[.int .i64 0] 39 := by rw [hW]; exact Blk.new _ _ _
  have L : Below w.heap.size w W := by rw [hW]; exact (Below.refl _ w).alloc (Nat.le_refl _) _
  clear hW
  refine (HF.out W L).mono ?_
  rintro e w1 ⟨rfl, hb⟩
  replace B := B.below hb
  replace L := L.trans (hb.mono L.size)
  clear hb HF
  have b0 := B.cell 0
  have fb := B.frozen
  have HL : Hid (Below w.heap.size w w1) := L
  clear B L
  go_wp2_with fail
  refine leaves_cons (f := 88) (args := #[.pointer (some ⟨w.heap.size, 0, none⟩)]) (by simp) (by simp [go_sem]) ?_
  refine (catch_strokes _ _).mono ?_
  rintro e u' w'' ⟨rfl, rfl, rfl⟩
  refine ⟨.tuple #[(.slice oa n c), .int .i64 0], ?_, rfl, ?_⟩
  · simp [results, Tryz.results66, go_sem, b0]
  · exact HL.out.setCell (Nat.le_refl _) _

theorem catch_bool (p : Addr) (w : World) :
    CallsD Tryz.prog 82 #[.pointer (some p)] .returning w fun e u' w' => e = .returned (.tuple #[]) ∧ u' = .returning ∧ w' = w := by
  refine callsD_of_wpS Tryz.func82 rfl fun c₀ cs hu => ?_
  apply wpS_seq
  apply wpS_region
  simp [wpOpsS, go_sem, recoverD, hu, Tryz.ntmps82, Exit.thenS]
  refine wpS_cond (t := false) (by simp [Act.eval, Array.replicate]) ?_
  simp only [Bool.false_eq_true, if_false]
  refine wpS_of_wp (wp_skip ?_)
  cases c₀
  simp_all [bodyPostS, results, Tryz.results82]

set_option maxHeartbeats 1000000 in
theorem ans_bool (c0 c1 : Value) (v : Bool) (w : World)
    (hf : ∀ w', Below w.heap.size w w' → Calls Tryz.prog 50 #[c0, c1] w' fun e w'' => e = .returned (.bool v) ∧ Below w'.heap.size w' w'') :
    Calls Tryz.prog 49 #[.func (.func 50) #[] #[c0, c1]] w fun e w' => e = .returned (.tuple #[(.bool v), .int .i64 0]) ∧ Below w.heap.size w w' := by
  have hmf : ∀ (fn : Fn) (first cap : Array Value) (w : World), (Instr.makeFunc fn first cap).run Tryz.prog w = .ok (.func fn first cap) w := fun _ _ _ _ => rfl
  have HF : Hid (∀ w', Below w.heap.size w w' → Calls Tryz.prog 50 #[c0, c1] w' fun e w'' => e = .returned (.bool v) ∧ Below w'.heap.size w' w'') := hf
  clear hf
  go_enter_defers Tryz.func49, Tryz.ntmps49
  go_wp2_with fail
  obtain ⟨W, hW⟩ : ∃ W, W = w.alloc (.cells #[.int .i64 0] 39) := ⟨_, rfl⟩
  rw [← hW]
  have B : Blk W w.heap.size #[.int .i64 0] 39 := by rw [hW]; exact Blk.new _ _ _
  have L : Below w.heap.size w W := by rw [hW]; exact (Below.refl _ w).alloc (Nat.le_refl _) _
  clear hW
  refine (HF.out W L).mono ?_
  rintro e w1 ⟨rfl, hb⟩
  replace B := B.below hb
  replace L := L.trans (hb.mono L.size)
  clear hb HF
  have b0 := B.cell 0
  have fb := B.frozen
  have HL : Hid (Below w.heap.size w w1) := L
  clear B L
  go_wp2_with fail
  refine leaves_cons (f := 82) (args := #[.pointer (some ⟨w.heap.size, 0, none⟩)]) (by simp) (by simp [go_sem]) ?_
  refine (catch_bool _ _).mono ?_
  rintro e u' w'' ⟨rfl, rfl, rfl⟩
  refine ⟨.tuple #[(.bool v), .int .i64 0], ?_, rfl, ?_⟩
  · simp [results, Tryz.results49, go_sem, b0]
  · exact HL.out.setCell (Nat.le_refl _) _

end Go.Proofs.YtdbafcldpleogaaGreatDoor
