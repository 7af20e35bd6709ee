/-
  answered: what a part's method answers, where it does not panic; the methods that are promoted.
-/
import Derived.Test.YtbnbfgkcndomaabGreatDoorUB
import Derived.Test.YtbnbfgkcndomaabGreatDoorRF
import Derived.Test.YtbnbfgkcndomaabGreatDoorW3
namespace Go.Proofs.YtbnbfgkcndomaabGreatDoor
open Go.RowKit

theorem me_label_Measure (f b : Nat) (x0 x1 x2 x3 : Int) (w : World) (h0 : w.cell? ⟨b, 2, none⟩ = some (.int .i64 x0)) (h1 : w.cell? ⟨b, 3, none⟩ = some (.int .i64 x1)) (h2 : w.cell? ⟨b, 4, none⟩ = some (.int .i64 x2)) (h3 : w.cell? ⟨b, 5, none⟩ = some (.int .i64 x3)) :
    (method (f + 1) 183 (.pointer (some ⟨b, 0, none⟩)) "Measure").run Tryz.prog w = .ok (204, .agg #[(.int .i64 x0), (.int .i64 x1), (.int .i64 x2), (.int .i64 x3)]) w := by
  have e : (method (f + 1) 183 (.pointer (some ⟨b, 0, none⟩)) "Measure").run Tryz.prog w = (do let v ← loadVar 195 ⟨b, 0 + 2, none⟩; pure (204, v) : Sem (FuncId × Value)).run Tryz.prog w := by kernel_rfl
  rw [e]
  simp [go_sem, h0, h1, h2, h3]
theorem me_label_Strokes (f b : Nat) (s : ByteArray) (w : World) (h0 : w.cell? ⟨b, 6, none⟩ = some (.string s)) :
    (method (f + 1) 183 (.pointer (some ⟨b, 0, none⟩)) "Strokes").run Tryz.prog w = .ok (206, .agg #[(.string s)]) w := by
  have e : (method (f + 1) 183 (.pointer (some ⟨b, 0, none⟩)) "Strokes").run Tryz.prog w = (do let v ← loadVar 199 ⟨b, 0 + 6, none⟩; pure (206, v) : Sem (FuncId × Value)).run Tryz.prog w := by kernel_rfl
  rw [e]
  simp [go_sem, h0]
theorem me_button_Measure (f b : Nat) (x0 x1 x2 x3 : Int) (w : World) (h0 : w.cell? ⟨b, 2, none⟩ = some (.int .i64 x0)) (h1 : w.cell? ⟨b, 3, none⟩ = some (.int .i64 x1)) (h2 : w.cell? ⟨b, 4, none⟩ = some (.int .i64 x2)) (h3 : w.cell? ⟨b, 5, none⟩ = some (.int .i64 x3)) :
    (method (f + 1) 184 (.pointer (some ⟨b, 0, none⟩)) "Measure").run Tryz.prog w = .ok (204, .agg #[(.int .i64 x0), (.int .i64 x1), (.int .i64 x2), (.int .i64 x3)]) w := by
  have e : (method (f + 1) 184 (.pointer (some ⟨b, 0, none⟩)) "Measure").run Tryz.prog w = (do let v ← loadVar 195 ⟨b, 0 + 2, none⟩; pure (204, v) : Sem (FuncId × Value)).run Tryz.prog w := by kernel_rfl
  rw [e]
  simp [go_sem, h0, h1, h2, h3]
theorem me_button_Strokes (f b : Nat) (s : ByteArray) (w : World) (h0 : w.cell? ⟨b, 6, none⟩ = some (.string s)) :
    (method (f + 1) 184 (.pointer (some ⟨b, 0, none⟩)) "Strokes").run Tryz.prog w = .ok (206, .agg #[(.string s)]) w := by
  have e : (method (f + 1) 184 (.pointer (some ⟨b, 0, none⟩)) "Strokes").run Tryz.prog w = (do let v ← loadVar 199 ⟨b, 0 + 6, none⟩; pure (206, v) : Sem (FuncId × Value)).run Tryz.prog w := by kernel_rfl
  rw [e]
  simp [go_sem, h0]
theorem me_button_Order (f b : Nat) (x : Int) (w : World) (h0 : w.cell? ⟨b, 7, none⟩ = some (.int .i64 x)) :
    (method (f + 1) 184 (.pointer (some ⟨b, 0, none⟩)) "Order").run Tryz.prog w = .ok (220, .agg #[(.int .i64 x)]) w := by
  have e : (method (f + 1) 184 (.pointer (some ⟨b, 0, none⟩)) "Order").run Tryz.prog w = (do let v ← loadVar 201 ⟨b, 0 + 7, none⟩; pure (220, v) : Sem (FuncId × Value)).run Tryz.prog w := by kernel_rfl
  rw [e]
  simp [go_sem, h0]
theorem na_button_Order (f b : Nat) (w : World) : (nilAhead (f + 1) 184 (.pointer (some ⟨b, 0, none⟩)) "Order").run Tryz.prog w = .ok (some false) w := by kernel_rfl
theorem me_field_Measure (f b : Nat) (x0 x1 x2 x3 : Int) (w : World) (h0 : w.cell? ⟨b, 2, none⟩ = some (.int .i64 x0)) (h1 : w.cell? ⟨b, 3, none⟩ = some (.int .i64 x1)) (h2 : w.cell? ⟨b, 4, none⟩ = some (.int .i64 x2)) (h3 : w.cell? ⟨b, 5, none⟩ = some (.int .i64 x3)) :
    (method (f + 1) 185 (.pointer (some ⟨b, 0, none⟩)) "Measure").run Tryz.prog w = .ok (204, .agg #[(.int .i64 x0), (.int .i64 x1), (.int .i64 x2), (.int .i64 x3)]) w := by
  have e : (method (f + 1) 185 (.pointer (some ⟨b, 0, none⟩)) "Measure").run Tryz.prog w = (do let v ← loadVar 195 ⟨b, 0 + 2, none⟩; pure (204, v) : Sem (FuncId × Value)).run Tryz.prog w := by kernel_rfl
  rw [e]
  simp [go_sem, h0, h1, h2, h3]
theorem me_field_Strokes (f b : Nat) (s : ByteArray) (w : World) (h0 : w.cell? ⟨b, 6, none⟩ = some (.string s)) :
    (method (f + 1) 185 (.pointer (some ⟨b, 0, none⟩)) "Strokes").run Tryz.prog w = .ok (206, .agg #[(.string s)]) w := by
  have e : (method (f + 1) 185 (.pointer (some ⟨b, 0, none⟩)) "Strokes").run Tryz.prog w = (do let v ← loadVar 199 ⟨b, 0 + 6, none⟩; pure (206, v) : Sem (FuncId × Value)).run Tryz.prog w := by kernel_rfl
  rw [e]
  simp [go_sem, h0]
theorem me_field_Order (f b : Nat) (x : Int) (w : World) (h0 : w.cell? ⟨b, 7, none⟩ = some (.int .i64 x)) :
    (method (f + 1) 185 (.pointer (some ⟨b, 0, none⟩)) "Order").run Tryz.prog w = .ok (220, .agg #[(.int .i64 x)]) w := by
  have e : (method (f + 1) 185 (.pointer (some ⟨b, 0, none⟩)) "Order").run Tryz.prog w = (do let v ← loadVar 201 ⟨b, 0 + 7, none⟩; pure (220, v) : Sem (FuncId × Value)).run Tryz.prog w := by kernel_rfl
  rw [e]
  simp [go_sem, h0]
theorem me_field_Takes (f b : Nat) (s : ByteArray) (w : World) (h0 : w.cell? ⟨b, 8, none⟩ = some (.string s)) :
    (method (f + 1) 185 (.pointer (some ⟨b, 0, none⟩)) "Takes").run Tryz.prog w = .ok (223, .agg #[(.string s)]) w := by
  have e : (method (f + 1) 185 (.pointer (some ⟨b, 0, none⟩)) "Takes").run Tryz.prog w = (do let v ← loadVar 207 ⟨b, 0 + 8, none⟩; pure (223, v) : Sem (FuncId × Value)).run Tryz.prog w := by kernel_rfl
  rw [e]
  simp [go_sem, h0]
theorem na_field_Order (f b : Nat) (w : World) : (nilAhead (f + 1) 185 (.pointer (some ⟨b, 0, none⟩)) "Order").run Tryz.prog w = .ok (some false) w := by kernel_rfl
theorem me_box_Measure (f b : Nat) (x0 x1 x2 x3 : Int) (w : World) (h0 : w.cell? ⟨b, 2, none⟩ = some (.int .i64 x0)) (h1 : w.cell? ⟨b, 3, none⟩ = some (.int .i64 x1)) (h2 : w.cell? ⟨b, 4, none⟩ = some (.int .i64 x2)) (h3 : w.cell? ⟨b, 5, none⟩ = some (.int .i64 x3)) :
    (method (f + 1) 186 (.pointer (some ⟨b, 0, none⟩)) "Measure").run Tryz.prog w = .ok (204, .agg #[(.int .i64 x0), (.int .i64 x1), (.int .i64 x2), (.int .i64 x3)]) w := by
  have e : (method (f + 1) 186 (.pointer (some ⟨b, 0, none⟩)) "Measure").run Tryz.prog w = (do let v ← loadVar 195 ⟨b, 0 + 2, none⟩; pure (204, v) : Sem (FuncId × Value)).run Tryz.prog w := by kernel_rfl
  rw [e]
  simp [go_sem, h0, h1, h2, h3]
theorem me_box_Parts (f b : Nat) (oa : Option Addr) (n c : Nat) (w : World) (h0 : w.cell? ⟨b, 6, none⟩ = some (.slice oa n c)) :
    (method (f + 1) 186 (.pointer (some ⟨b, 0, none⟩)) "Parts").run Tryz.prog w = .ok (226, .agg #[(.slice oa n c)]) w := by
  have e : (method (f + 1) 186 (.pointer (some ⟨b, 0, none⟩)) "Parts").run Tryz.prog w = (do let v ← loadVar 211 ⟨b, 0 + 6, none⟩; pure (226, v) : Sem (FuncId × Value)).run Tryz.prog w := by kernel_rfl
  rw [e]
  simp [go_sem, h0]
theorem me_scroll_Measure (f b : Nat) (x0 x1 x2 x3 : Int) (w : World) (h0 : w.cell? ⟨b, 2, none⟩ = some (.int .i64 x0)) (h1 : w.cell? ⟨b, 3, none⟩ = some (.int .i64 x1)) (h2 : w.cell? ⟨b, 4, none⟩ = some (.int .i64 x2)) (h3 : w.cell? ⟨b, 5, none⟩ = some (.int .i64 x3)) :
    (method (f + 1) 187 (.pointer (some ⟨b, 0, none⟩)) "Measure").run Tryz.prog w = .ok (204, .agg #[(.int .i64 x0), (.int .i64 x1), (.int .i64 x2), (.int .i64 x3)]) w := by
  have e : (method (f + 1) 187 (.pointer (some ⟨b, 0, none⟩)) "Measure").run Tryz.prog w = (do let v ← loadVar 195 ⟨b, 0 + 2, none⟩; pure (204, v) : Sem (FuncId × Value)).run Tryz.prog w := by kernel_rfl
  rw [e]
  simp [go_sem, h0, h1, h2, h3]
theorem me_scroll_Strokes (f b : Nat) (s : ByteArray) (w : World) (h0 : w.cell? ⟨b, 6, none⟩ = some (.string s)) :
    (method (f + 1) 187 (.pointer (some ⟨b, 0, none⟩)) "Strokes").run Tryz.prog w = .ok (206, .agg #[(.string s)]) w := by
  have e : (method (f + 1) 187 (.pointer (some ⟨b, 0, none⟩)) "Strokes").run Tryz.prog w = (do let v ← loadVar 199 ⟨b, 0 + 6, none⟩; pure (206, v) : Sem (FuncId × Value)).run Tryz.prog w := by kernel_rfl
  rw [e]
  simp [go_sem, h0]
theorem me_scroll_Order (f b : Nat) (x : Int) (w : World) (h0 : w.cell? ⟨b, 7, none⟩ = some (.int .i64 x)) :
    (method (f + 1) 187 (.pointer (some ⟨b, 0, none⟩)) "Order").run Tryz.prog w = .ok (220, .agg #[(.int .i64 x)]) w := by
  have e : (method (f + 1) 187 (.pointer (some ⟨b, 0, none⟩)) "Order").run Tryz.prog w = (do let v ← loadVar 201 ⟨b, 0 + 7, none⟩; pure (220, v) : Sem (FuncId × Value)).run Tryz.prog w := by kernel_rfl
  rw [e]
  simp [go_sem, h0]
theorem me_scroll_Offset (f b : Nat) (x y : Int) (w : World) (h0 : w.cell? ⟨b, 8, none⟩ = some (.int .i64 x)) (h1 : w.cell? ⟨b, 9, none⟩ = some (.int .i64 y)) :
    (method (f + 1) 187 (.pointer (some ⟨b, 0, none⟩)) "Offset").run Tryz.prog w = .ok (229, .agg #[(.int .i64 x), (.int .i64 y)]) w := by
  have e : (method (f + 1) 187 (.pointer (some ⟨b, 0, none⟩)) "Offset").run Tryz.prog w = (do let v ← loadVar 215 ⟨b, 0 + 8, none⟩; pure (229, v) : Sem (FuncId × Value)).run Tryz.prog w := by kernel_rfl
  rw [e]
  simp [go_sem, h0, h1]
theorem me_scroll_Parts (f b : Nat) (oa : Option Addr) (n c : Nat) (w : World) (h0 : w.cell? ⟨b, 10, none⟩ = some (.slice oa n c)) :
    (method (f + 1) 187 (.pointer (some ⟨b, 0, none⟩)) "Parts").run Tryz.prog w = .ok (226, .agg #[(.slice oa n c)]) w := by
  have e : (method (f + 1) 187 (.pointer (some ⟨b, 0, none⟩)) "Parts").run Tryz.prog w = (do let v ← loadVar 211 ⟨b, 0 + 10, none⟩; pure (226, v) : Sem (FuncId × Value)).run Tryz.prog w := by kernel_rfl
  rw [e]
  simp [go_sem, h0]
theorem na_scroll_Order (f b : Nat) (w : World) : (nilAhead (f + 1) 187 (.pointer (some ⟨b, 0, none⟩)) "Order").run Tryz.prog w = .ok (some false) w := by kernel_rfl
theorem na_scroll_Offset (f b : Nat) (w : World) : (nilAhead (f + 1) 187 (.pointer (some ⟨b, 0, none⟩)) "Offset").run Tryz.prog w = .ok (some false) w := by kernel_rfl
theorem me_canvas_Strokes (f b : Nat) (s : ByteArray) (w : World) (h0 : w.cell? ⟨b, 2, none⟩ = some (.string s)) :
    (method (f + 1) 188 (.pointer (some ⟨b, 0, none⟩)) "Strokes").run Tryz.prog w = .ok (206, .agg #[(.string s)]) w := by
  have e : (method (f + 1) 188 (.pointer (some ⟨b, 0, none⟩)) "Strokes").run Tryz.prog w = (do let v ← loadVar 199 ⟨b, 0 + 2, none⟩; pure (206, v) : Sem (FuncId × Value)).run Tryz.prog w := by kernel_rfl
  rw [e]
  simp [go_sem, h0]
theorem me_gap_Measure (f b : Nat) (x0 x1 x2 x3 : Int) (w : World) (h0 : w.cell? ⟨b, 2, none⟩ = some (.int .i64 x0)) (h1 : w.cell? ⟨b, 3, none⟩ = some (.int .i64 x1)) (h2 : w.cell? ⟨b, 4, none⟩ = some (.int .i64 x2)) (h3 : w.cell? ⟨b, 5, none⟩ = some (.int .i64 x3)) :
    (method (f + 1) 189 (.pointer (some ⟨b, 0, none⟩)) "Measure").run Tryz.prog w = .ok (204, .agg #[(.int .i64 x0), (.int .i64 x1), (.int .i64 x2), (.int .i64 x3)]) w := by
  have e : (method (f + 1) 189 (.pointer (some ⟨b, 0, none⟩)) "Measure").run Tryz.prog w = (do let v ← loadVar 195 ⟨b, 0 + 2, none⟩; pure (204, v) : Sem (FuncId × Value)).run Tryz.prog w := by kernel_rfl
  rw [e]
  simp [go_sem, h0, h1, h2, h3]

theorem catch_size (p : Addr) (w : World) :
    CallsD Tryz.prog 113 #[.pointer (some p)] .returning w fun e u' w' => e = .returned (.tuple #[]) ∧ u' = .returning ∧ w' = w := by
  refine callsD_of_wpS Tryz.func113 rfl fun c₀ cs hu => ?_
  apply wpS_seq
  apply wpS_region
  simp [wpOpsS, go_sem, recoverD, hu, Tryz.ntmps113, Exit.thenS]
  refine wpS_cond (t := false) (by simp [Act.eval, Array.replicate]) ?_
  simp only [Bool.false_eq_true, if_false]
  refine wpS_of_wp (wp_skip ?_)
  cases c₀
  simp_all [bodyPostS, results, Tryz.results113]

set_option maxHeartbeats 1000000 in
theorem ans_size (c0 c1 : Value) (x y : Int) (w : World)
    (hf : ∀ w', Below w.heap.size w w' → Calls Tryz.prog 73 #[c0, c1] w' fun e w'' => e = .returned (.agg #[.int .i64 x, .int .i64 y]) ∧ Below w'.heap.size w' w'') :
    Calls Tryz.prog 72 #[.func (.func 73) #[] #[c0, c1]] w fun e w' => e = .returned (.tuple #[.agg #[.int .i64 x, .int .i64 y], .int .i64 0]) ∧ Below w.heap.size w w' := by
  have hmf : ∀ (fn : Fn) (first cap : Array Value) (w : World), (Instr.makeFunc fn first cap).run Tryz.prog w = .ok (.func fn first cap) w := fun _ _ _ _ => rfl
  have HF : Hid (∀ w', Below w.heap.size w w' → Calls Tryz.prog 73 #[c0, c1] w' fun e w'' => e = .returned (.agg #[.int .i64 x, .int .i64 y]) ∧ Below w'.heap.size w' w'') := hf
  clear hf
  go_enter_defers Tryz.func72, Tryz.ntmps72
  go_wp2_with fail
  obtain ⟨W, hW⟩ : ∃ W, W = (w.alloc (.cells #[.int .i64 0, .int .i64 0] 23)).alloc (.cells #[.int .i64 0] 45) := ⟨_, rfl⟩
  rw [← hW]
  have A : Blk W w.heap.size #[.int .i64 0, .int .i64 0] 23 := by rw [hW]; exact (Blk.new _ _ _).alloc _
  have B : Blk W (w.heap.size + 1) #[.int .i64 0] 45 := by
    rw [hW]
    have := Blk.new (w.alloc (.cells #[.int .i64 0, .int .i64 0] 23)) #[.int .i64 0] 45
    rwa [World.size_alloc] at this
  have L : Below w.heap.size w W := by rw [hW]; exact ((Below.refl _ w).alloc (Nat.le_refl _) _).alloc (by simp) _
  clear hW
  refine (HF.out W L).mono ?_
  rintro e w1 ⟨rfl, hb⟩
  replace A := A.below hb
  replace B := B.below hb
  replace L := L.trans (hb.mono L.size)
  clear hb HF
  have a0 := A.cell 0
  have a1 := A.cell 1
  have b0 := B.cell 0
  have fa := A.frozen
  have fb := B.frozen
  have HL : Hid (Below w.heap.size w w1) := L
  clear A B L
  go_wp2_with fail
  refine leaves_cons (f := 113) (args := #[.pointer (some ⟨w.heap.size + 1, 0, none⟩)]) (by simp) (by simp [go_sem]) ?_
  refine (catch_size _ _).mono ?_
  rintro e u' w'' ⟨rfl, rfl, rfl⟩
  refine ⟨.tuple #[.agg #[.int .i64 x, .int .i64 y], .int .i64 0], ?_, rfl, ?_⟩
  · simp [results, Tryz.results72, go_sem, a0, a1, b0]
  · exact ((HL.out.setCell (Nat.le_refl _) _).setCell (Nat.le_refl _) _).setCell (Nat.le_succ _) _

theorem catch_strokes (p : Addr) (w : World) :
    CallsD Tryz.prog 115 #[.pointer (some p)] .returning w fun e u' w' => e = .returned (.tuple #[]) ∧ u' = .returning ∧ w' = w := by
  refine callsD_of_wpS Tryz.func115 rfl fun c₀ cs hu => ?_
  apply wpS_seq
  apply wpS_region
  simp [wpOpsS, go_sem, recoverD, hu, Tryz.ntmps115, Exit.thenS]
  refine wpS_cond (t := false) (by simp [Act.eval, Array.replicate]) ?_
  simp only [Bool.false_eq_true, if_false]
  refine wpS_of_wp (wp_skip ?_)
  cases c₀
  simp_all [bodyPostS, results, Tryz.results115]

set_option maxHeartbeats 1000000 in
theorem ans_strokes (c0 c1 c2 : Value) (oa : Option Addr) (n c : Nat) (w : World)
    (hf : ∀ w', Below w.heap.size w w' → Calls Tryz.prog 78 #[c0, c1, c2] w' fun e w'' => e = .returned (.slice oa n c) ∧ Below w'.heap.size w' w'') :
    Calls Tryz.prog 77 #[.func (.func 78) #[] #[c0, c1, c2]] w fun e w' => e = .returned (.tuple #[(.slice oa n c), .int .i64 0]) ∧ Below w.heap.size w w' := by
  have hmf : ∀ (fn : Fn) (first cap : Array Value) (w : World), (Instr.makeFunc fn first cap).run Tryz.prog w = .ok (.func fn first cap) w := fun _ _ _ _ => rfl
  have HF : Hid (∀ w', Below w.heap.size w w' → Calls Tryz.prog 78 #[c0, c1, c2] w' fun e w'' => e = .returned (.slice oa n c) ∧ Below w'.heap.size w' w'') := hf
  clear hf
  go_enter_defers Tryz.func77, Tryz.ntmps77
  go_wp2_with fail
  obtain ⟨W, hW⟩ : ∃ W, W = w.alloc (.cells #[.int .i64 0] 45) := ⟨_, rfl⟩
  rw [← hW]
  have B : Blk W w.heap.size #[.int .i64 0] 45 := by rw [hW]; exact Blk.new _ _ _
  have L : Below w.heap.size w W := by rw [hW]; exact (Below.refl _ w).alloc (Nat.le_refl _) _
  clear hW
  refine (HF.out W L).mono ?_
  rintro e w1 ⟨rfl, hb⟩
  replace B := B.below hb
  replace L := L.trans (hb.mono L.size)
  clear hb HF
  have b0 := B.cell 0
  have fb := B.frozen
  have HL : Hid (Below w.heap.size w w1) := L
  clear B L
  go_wp2_with fail
  refine leaves_cons (f := 115) (args := #[.pointer (some ⟨w.heap.size, 0, none⟩)]) (by simp) (by simp [go_sem]) ?_
  refine (catch_strokes _ _).mono ?_
  rintro e u' w'' ⟨rfl, rfl, rfl⟩
  refine ⟨.tuple #[(.slice oa n c), .int .i64 0], ?_, rfl, ?_⟩
  · simp [results, Tryz.results77, go_sem, b0]
  · exact HL.out.setCell (Nat.le_refl _) _

theorem catch_bool (p : Addr) (w : World) :
    CallsD Tryz.prog 132 #[.pointer (some p)] .returning w fun e u' w' => e = .returned (.tuple #[]) ∧ u' = .returning ∧ w' = w := by
  refine callsD_of_wpS Tryz.func132 rfl fun c₀ cs hu => ?_
  apply wpS_seq
  apply wpS_region
  simp [wpOpsS, go_sem, recoverD, hu, Tryz.ntmps132, Exit.thenS]
  refine wpS_cond (t := false) (by simp [Act.eval, Array.replicate]) ?_
  simp only [Bool.false_eq_true, if_false]
  refine wpS_of_wp (wp_skip ?_)
  cases c₀
  simp_all [bodyPostS, results, Tryz.results132]

set_option maxHeartbeats 1000000 in
theorem ans_bool (c0 c1 : Value) (v : Bool) (w : World)
    (hf : ∀ w', Below w.heap.size w w' → Calls Tryz.prog 95 #[c0, c1] w' fun e w'' => e = .returned (.bool v) ∧ Below w'.heap.size w' w'') :
    Calls Tryz.prog 94 #[.func (.func 95) #[] #[c0, c1]] w fun e w' => e = .returned (.tuple #[(.bool v), .int .i64 0]) ∧ Below w.heap.size w w' := by
  have hmf : ∀ (fn : Fn) (first cap : Array Value) (w : World), (Instr.makeFunc fn first cap).run Tryz.prog w = .ok (.func fn first cap) w := fun _ _ _ _ => rfl
  have HF : Hid (∀ w', Below w.heap.size w w' → Calls Tryz.prog 95 #[c0, c1] w' fun e w'' => e = .returned (.bool v) ∧ Below w'.heap.size w' w'') := hf
  clear hf
  go_enter_defers Tryz.func94, Tryz.ntmps94
  go_wp2_with fail
  obtain ⟨W, hW⟩ : ∃ W, W = w.alloc (.cells #[.int .i64 0] 45) := ⟨_, rfl⟩
  rw [← hW]
  have B : Blk W w.heap.size #[.int .i64 0] 45 := by rw [hW]; exact Blk.new _ _ _
  have L : Below w.heap.size w W := by rw [hW]; exact (Below.refl _ w).alloc (Nat.le_refl _) _
  clear hW
  refine (HF.out W L).mono ?_
  rintro e w1 ⟨rfl, hb⟩
  replace B := B.below hb
  replace L := L.trans (hb.mono L.size)
  clear hb HF
  have b0 := B.cell 0
  have fb := B.frozen
  have HL : Hid (Below w.heap.size w w1) := L
  clear B L
  go_wp2_with fail
  refine leaves_cons (f := 132) (args := #[.pointer (some ⟨w.heap.size, 0, none⟩)]) (by simp) (by simp [go_sem]) ?_
  refine (catch_bool _ _).mono ?_
  rintro e u' w'' ⟨rfl, rfl, rfl⟩
  refine ⟨.tuple #[(.bool v), .int .i64 0], ?_, rfl, ?_⟩
  · simp [results, Tryz.results94, go_sem, b0]
  · exact HL.out.setCell (Nat.le_refl _) _

end Go.Proofs.YtbnbfgkcndomaabGreatDoor
