/-
  Measure and Strokes through wrappers.
-/
import Derived.Test.YtbnbfgkcndomaabGreatDoorVW
import Derived.Test.YtbnbfgkcndomaabGreatDoorReg3
import Derived.Test.YtbnbfgkcndomaabGreatDoorUE
import Derived.Test.YtbnbfgkcndomaabGreatDoorUO
namespace Go.Proofs.YtbnbfgkcndomaabGreatDoor
open Go.RowKit

theorem load_Measure (b j a : Nat) (fn : FuncId) (w : World) (h : w.cell? ⟨b, j, none⟩ = some (.pointer (some ⟨a, 0, none⟩))) :
    (do let v ← loadVar 233 ⟨b, j, none⟩; pure (fn, v) : Sem (FuncId × Value)).run Tryz.prog w = .ok (fn, .agg #[.pointer (some ⟨a, 0, none⟩)]) w := by
  simp [go_sem, h]
theorem mw_Measure : ∀ k : Nat, k < 64 → k.testBit 0 = true → ∀ (f b a : Nat) (w : World), (∀ j, j < 7 → j < 1 + popN k → w.cell? ⟨b, j, none⟩ = some (.pointer (some ⟨a, 0, none⟩))) → (method (f + 1) (cid k) (.pointer (some ⟨b, 0, none⟩)) "Measure").run Tryz.prog w = .ok (234, .agg #[.pointer (some ⟨a, 0, none⟩)]) w
  | 0, _, h, _, _, _, _, _ => absurd h (by decide)
  | 1, _, _, f, b, a, w, h => (show (method (f + 1) 386 (.pointer (some ⟨b, 0, none⟩)) "Measure").run Tryz.prog w = (do let v ← loadVar 233 ⟨b, 0 + 1, none⟩; pure (234, v) : Sem (FuncId × Value)).run Tryz.prog w by kernel_rfl).trans (load_Measure b (0 + 1) a _ w (h (0 + 1) (by decide) (by decide)))
  | 2, _, h, _, _, _, _, _ => absurd h (by decide)
  | 3, _, _, f, b, a, w, h => (show (method (f + 1) 392 (.pointer (some ⟨b, 0, none⟩)) "Measure").run Tryz.prog w = (do let v ← loadVar 233 ⟨b, 0 + 1, none⟩; pure (234, v) : Sem (FuncId × Value)).run Tryz.prog w by kernel_rfl).trans (load_Measure b (0 + 1) a _ w (h (0 + 1) (by decide) (by decide)))
  | 4, _, h, _, _, _, _, _ => absurd h (by decide)
  | 5, _, _, f, b, a, w, h => (show (method (f + 1) 398 (.pointer (some ⟨b, 0, none⟩)) "Measure").run Tryz.prog w = (do let v ← loadVar 233 ⟨b, 0 + 1, none⟩; pure (234, v) : Sem (FuncId × Value)).run Tryz.prog w by kernel_rfl).trans (load_Measure b (0 + 1) a _ w (h (0 + 1) (by decide) (by decide)))
  | 6, _, h, _, _, _, _, _ => absurd h (by decide)
  | 7, _, _, f, b, a, w, h => (show (method (f + 1) 404 (.pointer (some ⟨b, 0, none⟩)) "Measure").run Tryz.prog w = (do let v ← loadVar 233 ⟨b, 0 + 1, none⟩; pure (234, v) : Sem (FuncId × Value)).run Tryz.prog w by kernel_rfl).trans (load_Measure b (0 + 1) a _ w (h (0 + 1) (by decide) (by decide)))
  | 8, _, h, _, _, _, _, _ => absurd h (by decide)
  | 9, _, _, f, b, a, w, h => (show (method (f + 1) 410 (.pointer (some ⟨b, 0, none⟩)) "Measure").run Tryz.prog w = (do let v ← loadVar 233 ⟨b, 0 + 1, none⟩; pure (234, v) : Sem (FuncId × Value)).run Tryz.prog w by kernel_rfl).trans (load_Measure b (0 + 1) a _ w (h (0 + 1) (by decide) (by decide)))
  | 10, _, h, _, _, _, _, _ => absurd h (by decide)
  | 11, _, _, f, b, a, w, h => (show (method (f + 1) 416 (.pointer (some ⟨b, 0, none⟩)) "Measure").run Tryz.prog w = (do let v ← loadVar 233 ⟨b, 0 + 1, none⟩; pure (234, v) : Sem (FuncId × Value)).run Tryz.prog w by kernel_rfl).trans (load_Measure b (0 + 1) a _ w (h (0 + 1) (by decide) (by decide)))
  | 12, _, h, _, _, _, _, _ => absurd h (by decide)
  | 13, _, _, f, b, a, w, h => (show (method (f + 1) 422 (.pointer (some ⟨b, 0, none⟩)) "Measure").run Tryz.prog w = (do let v ← loadVar 233 ⟨b, 0 + 1, none⟩; pure (234, v) : Sem (FuncId × Value)).run Tryz.prog w by kernel_rfl).trans (load_Measure b (0 + 1) a _ w (h (0 + 1) (by decide) (by decide)))
  | 14, _, h, _, _, _, _, _ => absurd h (by decide)
  | 15, _, _, f, b, a, w, h => (show (method (f + 1) 428 (.pointer (some ⟨b, 0, none⟩)) "Measure").run Tryz.prog w = (do let v ← loadVar 233 ⟨b, 0 + 1, none⟩; pure (234, v) : Sem (FuncId × Value)).run Tryz.prog w by kernel_rfl).trans (load_Measure b (0 + 1) a _ w (h (0 + 1) (by decide) (by decide)))
  | 16, _, h, _, _, _, _, _ => absurd h (by decide)
  | 17, _, _, f, b, a, w, h => (show (method (f + 1) 241 (.pointer (some ⟨b, 0, none⟩)) "Measure").run Tryz.prog w = (do let v ← loadVar 233 ⟨b, 0 + 1, none⟩; pure (234, v) : Sem (FuncId × Value)).run Tryz.prog w by kernel_rfl).trans (load_Measure b (0 + 1) a _ w (h (0 + 1) (by decide) (by decide)))
  | 18, _, h, _, _, _, _, _ => absurd h (by decide)
  | 19, _, _, f, b, a, w, h => (show (method (f + 1) 247 (.pointer (some ⟨b, 0, none⟩)) "Measure").run Tryz.prog w = (do let v ← loadVar 233 ⟨b, 0 + 1, none⟩; pure (234, v) : Sem (FuncId × Value)).run Tryz.prog w by kernel_rfl).trans (load_Measure b (0 + 1) a _ w (h (0 + 1) (by decide) (by decide)))
  | 20, _, h, _, _, _, _, _ => absurd h (by decide)
  | 21, _, _, f, b, a, w, h => (show (method (f + 1) 253 (.pointer (some ⟨b, 0, none⟩)) "Measure").run Tryz.prog w = (do let v ← loadVar 233 ⟨b, 0 + 1, none⟩; pure (234, v) : Sem (FuncId × Value)).run Tryz.prog w by kernel_rfl).trans (load_Measure b (0 + 1) a _ w (h (0 + 1) (by decide) (by decide)))
  | 22, _, h, _, _, _, _, _ => absurd h (by decide)
  | 23, _, _, f, b, a, w, h => (show (method (f + 1) 259 (.pointer (some ⟨b, 0, none⟩)) "Measure").run Tryz.prog w = (do let v ← loadVar 233 ⟨b, 0 + 1, none⟩; pure (234, v) : Sem (FuncId × Value)).run Tryz.prog w by kernel_rfl).trans (load_Measure b (0 + 1) a _ w (h (0 + 1) (by decide) (by decide)))
  | 24, _, h, _, _, _, _, _ => absurd h (by decide)
  | 25, _, _, f, b, a, w, h => (show (method (f + 1) 265 (.pointer (some ⟨b, 0, none⟩)) "Measure").run Tryz.prog w = (do let v ← loadVar 233 ⟨b, 0 + 1, none⟩; pure (234, v) : Sem (FuncId × Value)).run Tryz.prog w by kernel_rfl).trans (load_Measure b (0 + 1) a _ w (h (0 + 1) (by decide) (by decide)))
  | 26, _, h, _, _, _, _, _ => absurd h (by decide)
  | 27, _, _, f, b, a, w, h => (show (method (f + 1) 271 (.pointer (some ⟨b, 0, none⟩)) "Measure").run Tryz.prog w = (do let v ← loadVar 233 ⟨b, 0 + 1, none⟩; pure (234, v) : Sem (FuncId × Value)).run Tryz.prog w by kernel_rfl).trans (load_Measure b (0 + 1) a _ w (h (0 + 1) (by decide) (by decide)))
  | 28, _, h, _, _, _, _, _ => absurd h (by decide)
  | 29, _, _, f, b, a, w, h => (show (method (f + 1) 277 (.pointer (some ⟨b, 0, none⟩)) "Measure").run Tryz.prog w = (do let v ← loadVar 233 ⟨b, 0 + 1, none⟩; pure (234, v) : Sem (FuncId × Value)).run Tryz.prog w by kernel_rfl).trans (load_Measure b (0 + 1) a _ w (h (0 + 1) (by decide) (by decide)))
  | 30, _, h, _, _, _, _, _ => absurd h (by decide)
  | 31, _, _, f, b, a, w, h => (show (method (f + 1) 283 (.pointer (some ⟨b, 0, none⟩)) "Measure").run Tryz.prog w = (do let v ← loadVar 233 ⟨b, 0 + 1, none⟩; pure (234, v) : Sem (FuncId × Value)).run Tryz.prog w by kernel_rfl).trans (load_Measure b (0 + 1) a _ w (h (0 + 1) (by decide) (by decide)))
  | 32, _, h, _, _, _, _, _ => absurd h (by decide)
  | 33, _, _, f, b, a, w, h => (show (method (f + 1) 290 (.pointer (some ⟨b, 0, none⟩)) "Measure").run Tryz.prog w = (do let v ← loadVar 233 ⟨b, 0 + 1, none⟩; pure (234, v) : Sem (FuncId × Value)).run Tryz.prog w by kernel_rfl).trans (load_Measure b (0 + 1) a _ w (h (0 + 1) (by decide) (by decide)))
  | 34, _, h, _, _, _, _, _ => absurd h (by decide)
  | 35, _, _, f, b, a, w, h => (show (method (f + 1) 296 (.pointer (some ⟨b, 0, none⟩)) "Measure").run Tryz.prog w = (do let v ← loadVar 233 ⟨b, 0 + 1, none⟩; pure (234, v) : Sem (FuncId × Value)).run Tryz.prog w by kernel_rfl).trans (load_Measure b (0 + 1) a _ w (h (0 + 1) (by decide) (by decide)))
  | 36, _, h, _, _, _, _, _ => absurd h (by decide)
  | 37, _, _, f, b, a, w, h => (show (method (f + 1) 302 (.pointer (some ⟨b, 0, none⟩)) "Measure").run Tryz.prog w = (do let v ← loadVar 233 ⟨b, 0 + 1, none⟩; pure (234, v) : Sem (FuncId × Value)).run Tryz.prog w by kernel_rfl).trans (load_Measure b (0 + 1) a _ w (h (0 + 1) (by decide) (by decide)))
  | 38, _, h, _, _, _, _, _ => absurd h (by decide)
  | 39, _, _, f, b, a, w, h => (show (method (f + 1) 308 (.pointer (some ⟨b, 0, none⟩)) "Measure").run Tryz.prog w = (do let v ← loadVar 233 ⟨b, 0 + 1, none⟩; pure (234, v) : Sem (FuncId × Value)).run Tryz.prog w by kernel_rfl).trans (load_Measure b (0 + 1) a _ w (h (0 + 1) (by decide) (by decide)))
  | 40, _, h, _, _, _, _, _ => absurd h (by decide)
  | 41, _, _, f, b, a, w, h => (show (method (f + 1) 314 (.pointer (some ⟨b, 0, none⟩)) "Measure").run Tryz.prog w = (do let v ← loadVar 233 ⟨b, 0 + 1, none⟩; pure (234, v) : Sem (FuncId × Value)).run Tryz.prog w by kernel_rfl).trans (load_Measure b (0 + 1) a _ w (h (0 + 1) (by decide) (by decide)))
  | 42, _, h, _, _, _, _, _ => absurd h (by decide)
  | 43, _, _, f, b, a, w, h => (show (method (f + 1) 320 (.pointer (some ⟨b, 0, none⟩)) "Measure").run Tryz.prog w = (do let v ← loadVar 233 ⟨b, 0 + 1, none⟩; pure (234, v) : Sem (FuncId × Value)).run Tryz.prog w by kernel_rfl).trans (load_Measure b (0 + 1) a _ w (h (0 + 1) (by decide) (by decide)))
  | 44, _, h, _, _, _, _, _ => absurd h (by decide)
  | 45, _, _, f, b, a, w, h => (show (method (f + 1) 326 (.pointer (some ⟨b, 0, none⟩)) "Measure").run Tryz.prog w = (do let v ← loadVar 233 ⟨b, 0 + 1, none⟩; pure (234, v) : Sem (FuncId × Value)).run Tryz.prog w by kernel_rfl).trans (load_Measure b (0 + 1) a _ w (h (0 + 1) (by decide) (by decide)))
  | 46, _, h, _, _, _, _, _ => absurd h (by decide)
  | 47, _, _, f, b, a, w, h => (show (method (f + 1) 332 (.pointer (some ⟨b, 0, none⟩)) "Measure").run Tryz.prog w = (do let v ← loadVar 233 ⟨b, 0 + 1, none⟩; pure (234, v) : Sem (FuncId × Value)).run Tryz.prog w by kernel_rfl).trans (load_Measure b (0 + 1) a _ w (h (0 + 1) (by decide) (by decide)))
  | 48, _, h, _, _, _, _, _ => absurd h (by decide)
  | 49, _, _, f, b, a, w, h => (show (method (f + 1) 338 (.pointer (some ⟨b, 0, none⟩)) "Measure").run Tryz.prog w = (do let v ← loadVar 233 ⟨b, 0 + 1, none⟩; pure (234, v) : Sem (FuncId × Value)).run Tryz.prog w by kernel_rfl).trans (load_Measure b (0 + 1) a _ w (h (0 + 1) (by decide) (by decide)))
  | 50, _, h, _, _, _, _, _ => absurd h (by decide)
  | 51, _, _, f, b, a, w, h => (show (method (f + 1) 344 (.pointer (some ⟨b, 0, none⟩)) "Measure").run Tryz.prog w = (do let v ← loadVar 233 ⟨b, 0 + 1, none⟩; pure (234, v) : Sem (FuncId × Value)).run Tryz.prog w by kernel_rfl).trans (load_Measure b (0 + 1) a _ w (h (0 + 1) (by decide) (by decide)))
  | 52, _, h, _, _, _, _, _ => absurd h (by decide)
  | 53, _, _, f, b, a, w, h => (show (method (f + 1) 350 (.pointer (some ⟨b, 0, none⟩)) "Measure").run Tryz.prog w = (do let v ← loadVar 233 ⟨b, 0 + 1, none⟩; pure (234, v) : Sem (FuncId × Value)).run Tryz.prog w by kernel_rfl).trans (load_Measure b (0 + 1) a _ w (h (0 + 1) (by decide) (by decide)))
  | 54, _, h, _, _, _, _, _ => absurd h (by decide)
  | 55, _, _, f, b, a, w, h => (show (method (f + 1) 356 (.pointer (some ⟨b, 0, none⟩)) "Measure").run Tryz.prog w = (do let v ← loadVar 233 ⟨b, 0 + 1, none⟩; pure (234, v) : Sem (FuncId × Value)).run Tryz.prog w by kernel_rfl).trans (load_Measure b (0 + 1) a _ w (h (0 + 1) (by decide) (by decide)))
  | 56, _, h, _, _, _, _, _ => absurd h (by decide)
  | 57, _, _, f, b, a, w, h => (show (method (f + 1) 362 (.pointer (some ⟨b, 0, none⟩)) "Measure").run Tryz.prog w = (do let v ← loadVar 233 ⟨b, 0 + 1, none⟩; pure (234, v) : Sem (FuncId × Value)).run Tryz.prog w by kernel_rfl).trans (load_Measure b (0 + 1) a _ w (h (0 + 1) (by decide) (by decide)))
  | 58, _, h, _, _, _, _, _ => absurd h (by decide)
  | 59, _, _, f, b, a, w, h => (show (method (f + 1) 368 (.pointer (some ⟨b, 0, none⟩)) "Measure").run Tryz.prog w = (do let v ← loadVar 233 ⟨b, 0 + 1, none⟩; pure (234, v) : Sem (FuncId × Value)).run Tryz.prog w by kernel_rfl).trans (load_Measure b (0 + 1) a _ w (h (0 + 1) (by decide) (by decide)))
  | 60, _, h, _, _, _, _, _ => absurd h (by decide)
  | 61, _, _, f, b, a, w, h => (show (method (f + 1) 374 (.pointer (some ⟨b, 0, none⟩)) "Measure").run Tryz.prog w = (do let v ← loadVar 233 ⟨b, 0 + 1, none⟩; pure (234, v) : Sem (FuncId × Value)).run Tryz.prog w by kernel_rfl).trans (load_Measure b (0 + 1) a _ w (h (0 + 1) (by decide) (by decide)))
  | 62, _, h, _, _, _, _, _ => absurd h (by decide)
  | 63, _, _, f, b, a, w, h => (show (method (f + 1) 380 (.pointer (some ⟨b, 0, none⟩)) "Measure").run Tryz.prog w = (do let v ← loadVar 233 ⟨b, 0 + 1, none⟩; pure (234, v) : Sem (FuncId × Value)).run Tryz.prog w by kernel_rfl).trans (load_Measure b (0 + 1) a _ w (h (0 + 1) (by decide) (by decide)))
  | n + 64, h, _, _, _, _, _, _ => absurd h (by omega)

theorem load_Strokes (b j a : Nat) (fn : FuncId) (w : World) (h : w.cell? ⟨b, j, none⟩ = some (.pointer (some ⟨a, 0, none⟩))) :
    (do let v ← loadVar 234 ⟨b, j, none⟩; pure (fn, v) : Sem (FuncId × Value)).run Tryz.prog w = .ok (fn, .agg #[.pointer (some ⟨a, 0, none⟩)]) w := by
  simp [go_sem, h]
theorem mw_Strokes : ∀ k : Nat, k < 64 → k.testBit 1 = true → ∀ (f b a : Nat) (w : World), (∀ j, j < 7 → j < 1 + popN k → w.cell? ⟨b, j, none⟩ = some (.pointer (some ⟨a, 0, none⟩))) → (method (f + 1) (cid k) (.pointer (some ⟨b, 0, none⟩)) "Strokes").run Tryz.prog w = .ok (236, .agg #[.pointer (some ⟨a, 0, none⟩)]) w
  | 0, _, h, _, _, _, _, _ => absurd h (by decide)
  | 1, _, h, _, _, _, _, _ => absurd h (by decide)
  | 2, _, _, f, b, a, w, h => (show (method (f + 1) 389 (.pointer (some ⟨b, 0, none⟩)) "Strokes").run Tryz.prog w = (do let v ← loadVar 234 ⟨b, 0 + 1, none⟩; pure (236, v) : Sem (FuncId × Value)).run Tryz.prog w by kernel_rfl).trans (load_Strokes b (0 + 1) a _ w (h (0 + 1) (by decide) (by decide)))
  | 3, _, _, f, b, a, w, h => (show (method (f + 1) 392 (.pointer (some ⟨b, 0, none⟩)) "Strokes").run Tryz.prog w = (do let v ← loadVar 234 ⟨b, 0 + 2, none⟩; pure (236, v) : Sem (FuncId × Value)).run Tryz.prog w by kernel_rfl).trans (load_Strokes b (0 + 2) a _ w (h (0 + 2) (by decide) (by decide)))
  | 4, _, h, _, _, _, _, _ => absurd h (by decide)
  | 5, _, h, _, _, _, _, _ => absurd h (by decide)
  | 6, _, _, f, b, a, w, h => (show (method (f + 1) 401 (.pointer (some ⟨b, 0, none⟩)) "Strokes").run Tryz.prog w = (do let v ← loadVar 234 ⟨b, 0 + 1, none⟩; pure (236, v) : Sem (FuncId × Value)).run Tryz.prog w by kernel_rfl).trans (load_Strokes b (0 + 1) a _ w (h (0 + 1) (by decide) (by decide)))
  | 7, _, _, f, b, a, w, h => (show (method (f + 1) 404 (.pointer (some ⟨b, 0, none⟩)) "Strokes").run Tryz.prog w = (do let v ← loadVar 234 ⟨b, 0 + 2, none⟩; pure (236, v) : Sem (FuncId × Value)).run Tryz.prog w by kernel_rfl).trans (load_Strokes b (0 + 2) a _ w (h (0 + 2) (by decide) (by decide)))
  | 8, _, h, _, _, _, _, _ => absurd h (by decide)
  | 9, _, h, _, _, _, _, _ => absurd h (by decide)
  | 10, _, _, f, b, a, w, h => (show (method (f + 1) 413 (.pointer (some ⟨b, 0, none⟩)) "Strokes").run Tryz.prog w = (do let v ← loadVar 234 ⟨b, 0 + 1, none⟩; pure (236, v) : Sem (FuncId × Value)).run Tryz.prog w by kernel_rfl).trans (load_Strokes b (0 + 1) a _ w (h (0 + 1) (by decide) (by decide)))
  | 11, _, _, f, b, a, w, h => (show (method (f + 1) 416 (.pointer (some ⟨b, 0, none⟩)) "Strokes").run Tryz.prog w = (do let v ← loadVar 234 ⟨b, 0 + 2, none⟩; pure (236, v) : Sem (FuncId × Value)).run Tryz.prog w by kernel_rfl).trans (load_Strokes b (0 + 2) a _ w (h (0 + 2) (by decide) (by decide)))
  | 12, _, h, _, _, _, _, _ => absurd h (by decide)
  | 13, _, h, _, _, _, _, _ => absurd h (by decide)
  | 14, _, _, f, b, a, w, h => (show (method (f + 1) 425 (.pointer (some ⟨b, 0, none⟩)) "Strokes").run Tryz.prog w = (do let v ← loadVar 234 ⟨b, 0 + 1, none⟩; pure (236, v) : Sem (FuncId × Value)).run Tryz.prog w by kernel_rfl).trans (load_Strokes b (0 + 1) a _ w (h (0 + 1) (by decide) (by decide)))
  | 15, _, _, f, b, a, w, h => (show (method (f + 1) 428 (.pointer (some ⟨b, 0, none⟩)) "Strokes").run Tryz.prog w = (do let v ← loadVar 234 ⟨b, 0 + 2, none⟩; pure (236, v) : Sem (FuncId × Value)).run Tryz.prog w by kernel_rfl).trans (load_Strokes b (0 + 2) a _ w (h (0 + 2) (by decide) (by decide)))
  | 16, _, h, _, _, _, _, _ => absurd h (by decide)
  | 17, _, h, _, _, _, _, _ => absurd h (by decide)
  | 18, _, _, f, b, a, w, h => (show (method (f + 1) 244 (.pointer (some ⟨b, 0, none⟩)) "Strokes").run Tryz.prog w = (do let v ← loadVar 234 ⟨b, 0 + 1, none⟩; pure (236, v) : Sem (FuncId × Value)).run Tryz.prog w by kernel_rfl).trans (load_Strokes b (0 + 1) a _ w (h (0 + 1) (by decide) (by decide)))
  | 19, _, _, f, b, a, w, h => (show (method (f + 1) 247 (.pointer (some ⟨b, 0, none⟩)) "Strokes").run Tryz.prog w = (do let v ← loadVar 234 ⟨b, 0 + 2, none⟩; pure (236, v) : Sem (FuncId × Value)).run Tryz.prog w by kernel_rfl).trans (load_Strokes b (0 + 2) a _ w (h (0 + 2) (by decide) (by decide)))
  | 20, _, h, _, _, _, _, _ => absurd h (by decide)
  | 21, _, h, _, _, _, _, _ => absurd h (by decide)
  | 22, _, _, f, b, a, w, h => (show (method (f + 1) 256 (.pointer (some ⟨b, 0, none⟩)) "Strokes").run Tryz.prog w = (do let v ← loadVar 234 ⟨b, 0 + 1, none⟩; pure (236, v) : Sem (FuncId × Value)).run Tryz.prog w by kernel_rfl).trans (load_Strokes b (0 + 1) a _ w (h (0 + 1) (by decide) (by decide)))
  | 23, _, _, f, b, a, w, h => (show (method (f + 1) 259 (.pointer (some ⟨b, 0, none⟩)) "Strokes").run Tryz.prog w = (do let v ← loadVar 234 ⟨b, 0 + 2, none⟩; pure (236, v) : Sem (FuncId × Value)).run Tryz.prog w by kernel_rfl).trans (load_Strokes b (0 + 2) a _ w (h (0 + 2) (by decide) (by decide)))
  | 24, _, h, _, _, _, _, _ => absurd h (by decide)
  | 25, _, h, _, _, _, _, _ => absurd h (by decide)
  | 26, _, _, f, b, a, w, h => (show (method (f + 1) 268 (.pointer (some ⟨b, 0, none⟩)) "Strokes").run Tryz.prog w = (do let v ← loadVar 234 ⟨b, 0 + 1, none⟩; pure (236, v) : Sem (FuncId × Value)).run Tryz.prog w by kernel_rfl).trans (load_Strokes b (0 + 1) a _ w (h (0 + 1) (by decide) (by decide)))
  | 27, _, _, f, b, a, w, h => (show (method (f + 1) 271 (.pointer (some ⟨b, 0, none⟩)) "Strokes").run Tryz.prog w = (do let v ← loadVar 234 ⟨b, 0 + 2, none⟩; pure (236, v) : Sem (FuncId × Value)).run Tryz.prog w by kernel_rfl).trans (load_Strokes b (0 + 2) a _ w (h (0 + 2) (by decide) (by decide)))
  | 28, _, h, _, _, _, _, _ => absurd h (by decide)
  | 29, _, h, _, _, _, _, _ => absurd h (by decide)
  | 30, _, _, f, b, a, w, h => (show (method (f + 1) 280 (.pointer (some ⟨b, 0, none⟩)) "Strokes").run Tryz.prog w = (do let v ← loadVar 234 ⟨b, 0 + 1, none⟩; pure (236, v) : Sem (FuncId × Value)).run Tryz.prog w by kernel_rfl).trans (load_Strokes b (0 + 1) a _ w (h (0 + 1) (by decide) (by decide)))
  | 31, _, _, f, b, a, w, h => (show (method (f + 1) 283 (.pointer (some ⟨b, 0, none⟩)) "Strokes").run Tryz.prog w = (do let v ← loadVar 234 ⟨b, 0 + 2, none⟩; pure (236, v) : Sem (FuncId × Value)).run Tryz.prog w by kernel_rfl).trans (load_Strokes b (0 + 2) a _ w (h (0 + 2) (by decide) (by decide)))
  | 32, _, h, _, _, _, _, _ => absurd h (by decide)
  | 33, _, h, _, _, _, _, _ => absurd h (by decide)
  | 34, _, _, f, b, a, w, h => (show (method (f + 1) 293 (.pointer (some ⟨b, 0, none⟩)) "Strokes").run Tryz.prog w = (do let v ← loadVar 234 ⟨b, 0 + 1, none⟩; pure (236, v) : Sem (FuncId × Value)).run Tryz.prog w by kernel_rfl).trans (load_Strokes b (0 + 1) a _ w (h (0 + 1) (by decide) (by decide)))
  | 35, _, _, f, b, a, w, h => (show (method (f + 1) 296 (.pointer (some ⟨b, 0, none⟩)) "Strokes").run Tryz.prog w = (do let v ← loadVar 234 ⟨b, 0 + 2, none⟩; pure (236, v) : Sem (FuncId × Value)).run Tryz.prog w by kernel_rfl).trans (load_Strokes b (0 + 2) a _ w (h (0 + 2) (by decide) (by decide)))
  | 36, _, h, _, _, _, _, _ => absurd h (by decide)
  | 37, _, h, _, _, _, _, _ => absurd h (by decide)
  | 38, _, _, f, b, a, w, h => (show (method (f + 1) 305 (.pointer (some ⟨b, 0, none⟩)) "Strokes").run Tryz.prog w = (do let v ← loadVar 234 ⟨b, 0 + 1, none⟩; pure (236, v) : Sem (FuncId × Value)).run Tryz.prog w by kernel_rfl).trans (load_Strokes b (0 + 1) a _ w (h (0 + 1) (by decide) (by decide)))
  | 39, _, _, f, b, a, w, h => (show (method (f + 1) 308 (.pointer (some ⟨b, 0, none⟩)) "Strokes").run Tryz.prog w = (do let v ← loadVar 234 ⟨b, 0 + 2, none⟩; pure (236, v) : Sem (FuncId × Value)).run Tryz.prog w by kernel_rfl).trans (load_Strokes b (0 + 2) a _ w (h (0 + 2) (by decide) (by decide)))
  | 40, _, h, _, _, _, _, _ => absurd h (by decide)
  | 41, _, h, _, _, _, _, _ => absurd h (by decide)
  | 42, _, _, f, b, a, w, h => (show (method (f + 1) 317 (.pointer (some ⟨b, 0, none⟩)) "Strokes").run Tryz.prog w = (do let v ← loadVar 234 ⟨b, 0 + 1, none⟩; pure (236, v) : Sem (FuncId × Value)).run Tryz.prog w by kernel_rfl).trans (load_Strokes b (0 + 1) a _ w (h (0 + 1) (by decide) (by decide)))
  | 43, _, _, f, b, a, w, h => (show (method (f + 1) 320 (.pointer (some ⟨b, 0, none⟩)) "Strokes").run Tryz.prog w = (do let v ← loadVar 234 ⟨b, 0 + 2, none⟩; pure (236, v) : Sem (FuncId × Value)).run Tryz.prog w by kernel_rfl).trans (load_Strokes b (0 + 2) a _ w (h (0 + 2) (by decide) (by decide)))
  | 44, _, h, _, _, _, _, _ => absurd h (by decide)
  | 45, _, h, _, _, _, _, _ => absurd h (by decide)
  | 46, _, _, f, b, a, w, h => (show (method (f + 1) 329 (.pointer (some ⟨b, 0, none⟩)) "Strokes").run Tryz.prog w = (do let v ← loadVar 234 ⟨b, 0 + 1, none⟩; pure (236, v) : Sem (FuncId × Value)).run Tryz.prog w by kernel_rfl).trans (load_Strokes b (0 + 1) a _ w (h (0 + 1) (by decide) (by decide)))
  | 47, _, _, f, b, a, w, h => (show (method (f + 1) 332 (.pointer (some ⟨b, 0, none⟩)) "Strokes").run Tryz.prog w = (do let v ← loadVar 234 ⟨b, 0 + 2, none⟩; pure (236, v) : Sem (FuncId × Value)).run Tryz.prog w by kernel_rfl).trans (load_Strokes b (0 + 2) a _ w (h (0 + 2) (by decide) (by decide)))
  | 48, _, h, _, _, _, _, _ => absurd h (by decide)
  | 49, _, h, _, _, _, _, _ => absurd h (by decide)
  | 50, _, _, f, b, a, w, h => (show (method (f + 1) 341 (.pointer (some ⟨b, 0, none⟩)) "Strokes").run Tryz.prog w = (do let v ← loadVar 234 ⟨b, 0 + 1, none⟩; pure (236, v) : Sem (FuncId × Value)).run Tryz.prog w by kernel_rfl).trans (load_Strokes b (0 + 1) a _ w (h (0 + 1) (by decide) (by decide)))
  | 51, _, _, f, b, a, w, h => (show (method (f + 1) 344 (.pointer (some ⟨b, 0, none⟩)) "Strokes").run Tryz.prog w = (do let v ← loadVar 234 ⟨b, 0 + 2, none⟩; pure (236, v) : Sem (FuncId × Value)).run Tryz.prog w by kernel_rfl).trans (load_Strokes b (0 + 2) a _ w (h (0 + 2) (by decide) (by decide)))
  | 52, _, h, _, _, _, _, _ => absurd h (by decide)
  | 53, _, h, _, _, _, _, _ => absurd h (by decide)
  | 54, _, _, f, b, a, w, h => (show (method (f + 1) 353 (.pointer (some ⟨b, 0, none⟩)) "Strokes").run Tryz.prog w = (do let v ← loadVar 234 ⟨b, 0 + 1, none⟩; pure (236, v) : Sem (FuncId × Value)).run Tryz.prog w by kernel_rfl).trans (load_Strokes b (0 + 1) a _ w (h (0 + 1) (by decide) (by decide)))
  | 55, _, _, f, b, a, w, h => (show (method (f + 1) 356 (.pointer (some ⟨b, 0, none⟩)) "Strokes").run Tryz.prog w = (do let v ← loadVar 234 ⟨b, 0 + 2, none⟩; pure (236, v) : Sem (FuncId × Value)).run Tryz.prog w by kernel_rfl).trans (load_Strokes b (0 + 2) a _ w (h (0 + 2) (by decide) (by decide)))
  | 56, _, h, _, _, _, _, _ => absurd h (by decide)
  | 57, _, h, _, _, _, _, _ => absurd h (by decide)
  | 58, _, _, f, b, a, w, h => (show (method (f + 1) 365 (.pointer (some ⟨b, 0, none⟩)) "Strokes").run Tryz.prog w = (do let v ← loadVar 234 ⟨b, 0 + 1, none⟩; pure (236, v) : Sem (FuncId × Value)).run Tryz.prog w by kernel_rfl).trans (load_Strokes b (0 + 1) a _ w (h (0 + 1) (by decide) (by decide)))
  | 59, _, _, f, b, a, w, h => (show (method (f + 1) 368 (.pointer (some ⟨b, 0, none⟩)) "Strokes").run Tryz.prog w = (do let v ← loadVar 234 ⟨b, 0 + 2, none⟩; pure (236, v) : Sem (FuncId × Value)).run Tryz.prog w by kernel_rfl).trans (load_Strokes b (0 + 2) a _ w (h (0 + 2) (by decide) (by decide)))
  | 60, _, h, _, _, _, _, _ => absurd h (by decide)
  | 61, _, h, _, _, _, _, _ => absurd h (by decide)
  | 62, _, _, f, b, a, w, h => (show (method (f + 1) 377 (.pointer (some ⟨b, 0, none⟩)) "Strokes").run Tryz.prog w = (do let v ← loadVar 234 ⟨b, 0 + 1, none⟩; pure (236, v) : Sem (FuncId × Value)).run Tryz.prog w by kernel_rfl).trans (load_Strokes b (0 + 1) a _ w (h (0 + 1) (by decide) (by decide)))
  | 63, _, _, f, b, a, w, h => (show (method (f + 1) 380 (.pointer (some ⟨b, 0, none⟩)) "Strokes").run Tryz.prog w = (do let v ← loadVar 234 ⟨b, 0 + 2, none⟩; pure (236, v) : Sem (FuncId × Value)).run Tryz.prog w by kernel_rfl).trans (load_Strokes b (0 + 2) a _ w (h (0 + 2) (by decide) (by decide)))
  | n + 64, h, _, _, _, _, _, _ => absurd h (by omega)

end Go.Proofs.YtbnbfgkcndomaabGreatDoor

namespace Go.Proofs.YtbnbfgkcndomaabGreatDoor
open Go.RowKit

/-- An assertion that holds, holds without being asked whether. -/
theorem assert_of {P : Program} {t asserted xT : TypeId} {want : Array (String × TypeId)} (hu : P.underlying asserted = some (.interface want)) {v : Value} {w : World}
    (h : (Instr.typeAssert (.iface t v) xT asserted true).run P w = .ok (.tuple #[.iface t v, .bool true]) w) : (Instr.typeAssert (.iface t v) xT asserted false).run P w = .ok (.iface t v) w := by
  cases hi : P.info? t with
  | none => simp [Instr.typeAssert, run_underlying hu, typeInfo, hi] at h
  | some i =>
    cases hm : Instr.missingMethod want i.methods with
    | none => simp [Instr.typeAssert, run_underlying hu, typeInfo, hi, hm]
    | some m =>
      exfalso
      cases hj : P.info? asserted with
      | none => simp [Instr.typeAssert, run_underlying hu, typeInfo, hi, hm, zeroValue, hj] at h
      | some j =>
        cases hz : j.zero with
        | none => simp [Instr.typeAssert, run_underlying hu, typeInfo, hi, hm, zeroValue, hj, hz] at h
        | some z => simp [Instr.typeAssert, run_underlying hu, typeInfo, hi, hm, zeroValue, hj, hz] at h

/-- A number with its pad, within a room. -/
def padN (n p r : Int) : Int := lim (min (min n 16384 + 2 * p) 16384) r
theorem padded_any (n p r : Int) (w : World) (hn : I64 n) (hp : 0 ≤ p ∧ p ≤ 16384) :
    Calls Tryz.prog 235 #[.int .i64 n, .int .i64 p, .int .i64 r] w fun e w' => e = .returned (.int .i64 (padN n p r)) ∧ w' = w := by
  obtain ⟨h1, h2⟩ := hn
  obtain ⟨h3, h4⟩ := hp
  have w1 : -9223372036854775808 ≤ 2 * p ∧ 2 * p ≤ 9223372036854775807 := ⟨by omega, by omega⟩
  unfold padN lim
  by_cases h : 0 < r
  · rw [if_pos h]
    go_enter Tryz.func235, Tryz.ntmps235
    go_wp2
    all_goals (go_ret; exact ⟨ret_int (by omega), rfl⟩)
  · rw [if_neg h]
    go_enter Tryz.func235, Tryz.ntmps235
    go_wp2
    all_goals (go_ret; exact ⟨ret_int (by omega), rfl⟩)

/-- What is measured, through wrappers. -/
def meaL (a m r : Int) : List Wr → Int
  | [] => lim (lim a m) r
  | x :: l => if x.kind = 3 then padN (meaL a m r l) x.num r else meaL a m r l
theorem lim_i64 {n b : Int} (h : I64 n) (hb : I64 b) : I64 (lim n b) := by
  unfold lim
  obtain ⟨h1, h2⟩ := h
  obtain ⟨h3, h4⟩ := hb
  split
  · exact ⟨by omega, by omega⟩
  · exact ⟨h1, h2⟩
theorem pad_i64 {n p r : Int} (h : I64 n) (hp : 0 ≤ p ∧ p ≤ 16384) (hr : I64 r) : I64 (padN n p r) := by
  obtain ⟨h1, h2⟩ := h
  exact lim_i64 ⟨by omega, by omega⟩ hr
theorem ok_pad {x : Wr} (h : okW x = true) (h3 : x.kind = 3) : 0 ≤ x.num ∧ x.num ≤ 16384 := by
  simp only [okW, Bool.and_eq_true] at h
  have := h.2.2.2.1
  unfold numB at this
  rw [if_pos h3] at this
  simpa [fromTo] using this

end Go.Proofs.YtbnbfgkcndomaabGreatDoor

namespace Go.Proofs.YtbnbfgkcndomaabGreatDoor
open Go.RowKit

set_option maxHeartbeats 4000000 in
theorem wMea_any (a i : Nat) (z r : Value) (f : FuncId) (x : Wr) (p q R1 R2 : Int) (w : World) (hB : Blk w a #[.iface i z, .int .u8 (x.kind : Nat), .int .u16 (x.mask : Nat), .int .i64 x.num, .string x.text] 119)
    (has : ∀ w', (Instr.typeAssert (.iface i z) 44 129 false).run Tryz.prog w' = .ok (.iface i z) w')
    (hm : ∀ w', Below w.heap.size w w' → ∀ n, (method (n + 1) i z "Measure").run Tryz.prog w' = .ok (f, r) w')
    (he : ∀ args w', (callFunc f args).run Tryz.prog w' = .ok (.enter f args) w')
    (hc : ∀ w', Below w.heap.size w w' → Calls Tryz.prog f #[r, .agg #[.int .i64 p, .int .i64 q]] w' fun e w'' => e = .returned (.agg #[.int .i64 R1, .int .i64 R2]) ∧ Below w'.heap.size w' w'')
    (h3 : x.kind = 3 → (0 ≤ x.num ∧ x.num ≤ 16384) ∧ I64 R1 ∧ I64 R2) :
    Calls Tryz.prog 234 #[.agg #[.pointer (some ⟨a, 0, none⟩)], .agg #[.int .i64 p, .int .i64 q]] w fun e w' => e = .returned (.agg #[.int .i64 (if x.kind = 3 then padN R1 x.num p else R1), .int .i64 (if x.kind = 3 then padN R2 x.num q else R2)]) ∧ Below w.heap.size w w' := by
  have HC : Hid (∀ w', Below w.heap.size w w' → Calls Tryz.prog f #[r, .agg #[.int .i64 p, .int .i64 q]] w' fun e w'' => e = .returned (.agg #[.int .i64 R1, .int .i64 R2]) ∧ Below w'.heap.size w' w'') := hc
  have HM : Hid (∀ w', Below w.heap.size w w' → ∀ n, (method (n + 1) i z "Measure").run Tryz.prog w' = .ok (f, r) w') := hm
  have H3 : Hid (x.kind = 3 → (0 ≤ x.num ∧ x.num ≤ 16384) ∧ I64 R1 ∧ I64 R2) := h3
  clear hc hm h3
  go_enter Tryz.func234, Tryz.ntmps234
  go_wp2_with fail
  obtain ⟨W, hW⟩ : ∃ W, W = ((w.alloc (.cells #[.pointer (some ⟨a, 0, none⟩)] 233)).alloc (.cells #[.int .i64 p, .int .i64 q] 23)).alloc (.cells #[.int .i64 0, .int .i64 0] 23) := ⟨_, rfl⟩
  rw [← hW]
  have HL : Hid (Blk W w.heap.size #[.pointer (some ⟨a, 0, none⟩)] 233 ∧ Blk W (w.heap.size + 1) #[.int .i64 p, .int .i64 q] 23 ∧ Blk W (w.heap.size + 1 + 1) #[.int .i64 0, .int .i64 0] 23 ∧ Blk W a #[.iface i z, .int .u8 (x.kind : Nat), .int .u16 (x.mask : Nat), .int .i64 x.num, .string x.text] 119 ∧ Below w.heap.size w W) := by
    rw [hW]
    refine ⟨((Blk.new _ _ _).alloc _).alloc _, (blk_new' _ _ _ _ (by simp)).alloc _, blk_new' _ _ _ _ (by simp), ((hB.alloc _).alloc _).alloc _, (((Below.refl w.heap.size w).alloc (Nat.le_refl _) _).alloc (by simp) _).alloc (by simp; omega) _⟩
  clear hW hB
  refine wp_region_lit 8 1 1 (fun _ => .cells #[.int .i64 0, .int .i64 0] 23) [5] (by kernel_rfl) (by kernel_rfl) rfl ?_ rfl ?_ ?_
  · intro k hk
    have hc : k = 0 := by omega
    subst hc; rfl
  · intro k h1 h2
    have hc : k = 8 := by omega
    subst hc
    exact ⟨_, rfl, rfl, fun _ _ => by kernel_rfl⟩
  apply Exists.intro
  refine ⟨fun bs ne => ?_, ?_⟩
  · obtain ⟨A, R, _, K, L⟩ := HL.out
    have d0 := fun t : Gb W bs => (A.below t.below).cell 0
    have r0 := fun t : Gb W bs => (R.below t.below).cell 0
    have r1 := fun t : Gb W bs => (R.below t.below).cell 1
    have k0 := fun t : Gb W bs => (K.below t.below).cell 0
    have hm := fun (t : Gb W bs) n => HM.out t.wd (L.trans (t.below.mono L.size)) n
    have hc := fun (t : Gb W bs) => gb_call (HC.out t.wd (L.trans (t.below.mono L.size)))
    clear A R K L
    simp only [List.take_succ_cons, List.take_zero]
    repeat (go_big_quiet_step (first | exact hc _))
    exact wpQuiet_nil rfl
  intro bl wr hbl hlo _
  obtain ⟨q1, q2⟩ := hlo 8 (by omega) (by omega)
  simp only [layL, ptr]
  generalize bl 8 = g0 at *
  clear hlo has he HC HM
  have q3 : Blk wr g0 #[.int .i64 0, .int .i64 0] 23 := q2
  have q4 : Blk ((wr.setCell ⟨g0, 0, none⟩ (.int .i64 R1)).setCell ⟨g0, 1, none⟩ (.int .i64 R2)) g0 #[.int .i64 R1, .int .i64 R2] 23 := by simpa using (q3.put 0 (.int .i64 R1)).put 1 (.int .i64 R2)
  have HS : Hid (Blk ((wr.setCell ⟨g0, 0, none⟩ (.int .i64 R1)).setCell ⟨g0, 1, none⟩ (.int .i64 R2)) w.heap.size #[.pointer (some ⟨a, 0, none⟩)] 233 ∧ Blk ((wr.setCell ⟨g0, 0, none⟩ (.int .i64 R1)).setCell ⟨g0, 1, none⟩ (.int .i64 R2)) (w.heap.size + 1) #[.int .i64 p, .int .i64 q] 23 ∧ Blk ((wr.setCell ⟨g0, 0, none⟩ (.int .i64 R1)).setCell ⟨g0, 1, none⟩ (.int .i64 R2)) (w.heap.size + 1 + 1) #[.int .i64 0, .int .i64 0] 23 ∧ Blk ((wr.setCell ⟨g0, 0, none⟩ (.int .i64 R1)).setCell ⟨g0, 1, none⟩ (.int .i64 R2)) a #[.iface i z, .int .u8 (x.kind : Nat), .int .u16 (x.mask : Nat), .int .i64 x.num, .string x.text] 119 ∧ Below w.heap.size w ((wr.setCell ⟨g0, 0, none⟩ (.int .i64 R1)).setCell ⟨g0, 1, none⟩ (.int .i64 R2)) ∧ Blk ((wr.setCell ⟨g0, 0, none⟩ (.int .i64 R1)).setCell ⟨g0, 1, none⟩ (.int .i64 R2)) g0 #[.int .i64 R1, .int .i64 R2] 23) := by
    obtain ⟨A, R, Z, K, L⟩ := HL.out
    have oth : ∀ {b : Nat} {vs : Array Value} {t : TypeId}, Blk W b vs t → Blk ((wr.setCell ⟨g0, 0, none⟩ (.int .i64 R1)).setCell ⟨g0, 1, none⟩ (.int .i64 R2)) b vs t := fun h =>
      ((h.below hbl).other _ _ (by have := h.lt; show g0 ≠ _; omega)).other _ _ (by have := h.lt; show g0 ≠ _; omega)
    have hz : w.heap.size ≤ g0 := Nat.le_trans L.size q1
    exact ⟨oth A, oth R, oth Z, oth K, ((L.trans (hbl.mono L.size)).setCell hz _).setCell hz _, q4⟩
  have fa := q3.frozen
  have fc0 := q3.cell 0
  have fc1 := q3.cell 1
  refine wpAny_one 9 (by kernel_rfl) rfl ?_
  intro K hK
  go_simp
  refine hK _ _ ?_
  clear hK K fa fc0 fc1 q1 q2 q3 q4 hbl HL
  refine wpAny_done (by kernel_rfl) ?_ _
  generalize (wr.setCell ⟨g0, 0, none⟩ (.int .i64 R1)).setCell ⟨g0, 1, none⟩ (.int .i64 R2) = V at *
  obtain ⟨A, R, Z, K, L, G⟩ := HS.out
  have a0 := A.cell 0
  have k1 := K.cell 1
  have k3 := K.cell 3
  have z0 := Z.cell 0
  have z1 := Z.cell 1
  have fz := Z.frozen
  have g0' := G.cell 0
  have g1' := G.cell 1
  have lz := L.size
  clear A R Z K L G
  by_cases h3 : x.kind = 3
  case neg =>
    have n3 : ((x.kind : Int) != 3) = true := by
      have : (x.kind : Int) ≠ 3 := by omega
      simpa using this
    have HN : Hid (¬ x.kind = 3) := h3
    clear h3
    go_wp2
    exact bodyPost_ret (v := .agg #[.int .i64 R1, .int .i64 R2]) (by simp [results, Tryz.results234, go_sem, z0, z1]) rfl ⟨by first | rfl | rw [if_neg HN.out, if_neg HN.out], (HS.out.2.2.2.2.1.setCell (le2 _) _).setCell (le2 _) _⟩
  case pos =>
    have n3 : ((x.kind : Int) != 3) = false := by
      have : (x.kind : Int) = 3 := by omega
      rw [this]; rfl
    have HN : Hid (x.kind = 3) := h3
    have hP : Hid (∀ n r w', I64 n → Calls Tryz.prog 235 #[.int .i64 n, .int .i64 x.num, .int .i64 r] w' fun e w'' => e = .returned (.int .i64 (padN n x.num r)) ∧ w'' = w') := fun n r w' h => padded_any n x.num r w' h (H3.out h3).1
    have hR : Hid (I64 R1 ∧ I64 R2) := (H3.out h3).2
    clear h3
    go_wp2_with fail
    refine wp_region_lit 13 0 1 (fun _ => .cells #[] 0) [] (by kernel_rfl) (by kernel_rfl) rfl (fun k hk => absurd hk (by omega)) rfl (fun i h1 h2 => absurd h2 (by omega)) ?_
    apply Exists.intro
    refine ⟨fun bs ne => ?_, ?_⟩
    · obtain ⟨A, R, Z, K, L, G⟩ := HS.out
      have d0 := fun t : Gb V bs => (G.below t.below).cell 0
      have d1 := fun t : Gb V bs => (G.below t.below).cell 1
      have e0 := fun t : Gb V bs => (R.below t.below).cell 0
      have e1 := fun t : Gb V bs => (R.below t.below).cell 1
      clear A R Z K L G
      simp only [List.take_succ_cons, List.take_zero]
      repeat (go_big_quiet_step (first | (go_at_call 235; exact gb_same (hP.out _ _ _ (by first | exact hR.out.1 | exact hR.out.2)))))
      exact wpQuiet_nil rfl
    · intro bl2 wr2 hb2 _ _
      obtain ⟨A, R, Z, K, L, G⟩ := HS.out
      replace Z := Z.below hb2
      replace L := L.trans (hb2.mono L.size)
      have z0 := Z.cell 0
      have z1 := Z.cell 1
      have fz := Z.frozen
      have HL2 : Hid (Below w.heap.size w wr2) := L
      clear A R Z K L G
      simp only [layL]
      refine wpAny_one 13 (by kernel_rfl) rfl ?_
      intro K hK
      go_simp
      refine hK _ _ ?_
      clear hK K
      refine wpAny_done (by kernel_rfl) ?_ _
      go_wp2
      exact bodyPost_ret (v := .agg #[.int .i64 (padN R1 x.num p), .int .i64 (padN R2 x.num q)]) (by simp [results, Tryz.results234, go_sem, z0, z1]) rfl ⟨by first | rfl | rw [if_pos HN.out, if_pos HN.out], (HL2.out.setCell (le2 _) _).setCell (le2 _) _⟩

end Go.Proofs.YtbnbfgkcndomaabGreatDoor

namespace Go.Proofs.YtbnbfgkcndomaabGreatDoor
open Go.RowKit

theorem bit_lef (c : Nat) (x : Wr) (j : Nat) (hj : j = 0 ∨ j = 1 ∨ j = 3 ∨ j = 5) (h : (lefC c x).testBit j = true) : c.testBit j = true := by
  unfold lefC at h
  split at h
  · rw [Nat.testBit_and] at h; simp at h; exact h.1
  split at h
  · rw [Nat.testBit_and] at h; simp at h; exact h.1
  split at h
  · rw [Nat.testBit_or] at h
    have hz : Nat.testBit 4 j = false := by rcases hj with rfl | rfl | rfl | rfl <;> decide
    rw [hz, Bool.or_false] at h
    exact h
  split at h
  · rw [Nat.testBit_or] at h
    have hz : Nat.testBit 16 j = false := by rcases hj with rfl | rfl | rfl | rfl <;> decide
    rw [hz, Bool.or_false] at h
    exact h
  split at h
  · simp at h
  · exact h

/-- A value that measures: the method, and what it answers. -/
def MeaS (w : World) (v : Value) (p q R1 R2 : Int) : Prop :=
  ∃ i z f r, v = .iface i z ∧ (∀ w', (Instr.typeAssert (.iface i z) 44 129 false).run Tryz.prog w' = .ok (.iface i z) w') ∧ (∀ w', Below w.heap.size w w' → ∀ n, (method (n + 1) i z "Measure").run Tryz.prog w' = .ok (f, r) w') ∧ (∀ args w', (callFunc f args).run Tryz.prog w' = .ok (.enter f args) w') ∧
    (∀ w', Below w.heap.size w w' → Calls Tryz.prog f #[r, .agg #[.int .i64 p, .int .i64 q]] w' fun e w'' => e = .returned (.agg #[.int .i64 R1, .int .i64 R2]) ∧ Below w'.heap.size w' w'')
theorem mes_bit (t : Ty) : t.mes = t.can.testBit 0 := by cases t <;> rfl
theorem pai_bit (t : Ty) : t.pai = t.can.testBit 1 := by cases t <;> rfl
theorem Pw.one1 {w : World} {B : Bs} {l : List Wr} {i : Nat} {z : Value} (h : Pw w B l (.iface i z)) (hb : (canL B l).testBit 0 = true) (w' : World) : (Instr.typeAssert (.iface i z) 44 129 false).run Tryz.prog w' = .ok (.iface i z) w' := by
  obtain ⟨i1, y1, hv1, hf, _⟩ := h.tf
  obtain ⟨rfl, rfl⟩ : i = i1 ∧ z = y1 := by cases hv1; exact ⟨rfl, rfl⟩
  have := hf.a1 z w'
  rw [hb] at this
  exact assert_of Tryz.underlying129 this
theorem Pw.mea {w : World} {pt : Pt} {b : Nat} (p q : Int) (hp : I64 p ∧ I64 q ∧ I64 (lim (lim pt.aw pt.mw) p) ∧ I64 (lim (lim pt.ah pt.mh) q)) : ∀ {l : List Wr} {v : Value}, Pw w (.made pt b) l v → (canL (.made pt b) l).testBit 0 = true → MeaS w v p q (meaL pt.aw pt.mw p l) (meaL pt.ah pt.mh q l) ∧ I64 (meaL pt.aw pt.mw p l) ∧ I64 (meaL pt.ah pt.mh q l)
  | [], v, h, hb => by
    have h0 := h
    obtain ⟨rfl, ho⟩ := h
    refine ⟨⟨_, _, 204, .agg #[.int .i64 pt.aw, .int .i64 pt.ah, .int .i64 pt.mw, .int .i64 pt.mh], rfl, h0.one1 hb, fun w' hw n => (ho.1.below hw).mea (by rw [mes_bit]; exact hb) n, fun _ _ => by kernel_rfl, fun w' hw => measuring_any _ _ _ _ _ _ w'⟩, hp.2.2.1, hp.2.2.2⟩
  | x :: l, v, h, hb => by
    have h0 := h
    obtain ⟨bb, a, iv, e, h1, h2, h3, h4, h5⟩ := h
    have hb2 := bit_lef _ _ 0 (.inl rfl) hb
    obtain ⟨⟨i, z, f, r, rfl, has, hm, he, hc⟩, i1, i2⟩ := Pw.mea p q hp h5 hb2
    subst e
    refine ⟨⟨_, _, 234, .agg #[.pointer (some ⟨a, 0, none⟩)], rfl, h0.one1 hb, fun w' hw n => mw_Measure _ h3 hb n bb a w' (fun j _ hj => (h1.below hw).2 j hj), fun _ _ => by kernel_rfl, fun w' hw => ?_⟩, ?_, ?_⟩
    · exact wMea_any a i z r f x p q _ _ w' (h2.below hw) has (fun w'' hw' => hm w'' (hw.trans (hw'.mono hw.size))) he (fun w'' hw' => hc w'' (hw.trans (hw'.mono hw.size))) (fun hk => ⟨ok_pad h4 hk, i1, i2⟩)
    · show I64 (if x.kind = 3 then padN (meaL pt.aw pt.mw p l) x.num p else meaL pt.aw pt.mw p l)
      split
      · exact pad_i64 i1 (ok_pad h4 (by assumption)) hp.1
      · exact i1
    · show I64 (if x.kind = 3 then padN (meaL pt.ah pt.mh q l) x.num q else meaL pt.ah pt.mh q l)
      split
      · exact pad_i64 i2 (ok_pad h4 (by assumption)) hp.2.1
      · exact i2

theorem Pw.mesC {w : World} {B : Bs} {l : List Wr} {v : Value} (h : Pw w B l v) (hk : kindL B l ≠ 0) :
    Calls Tryz.prog 70 #[v] w fun e w' => e = .returned (bif (canL B l).testBit 0 then v else .nilIface) ∧ w' = w := by
  have hno := h.noneC
  rw [decide_eq_false hk] at hno
  obtain ⟨i, z, rfl, hf, _⟩ := h.tf
  have a1 := hf.a1
  clear h hk hf
  generalize (canL B l).testBit 0 = bt at *
  cases bt
  · simp only [cond_false] at a1 ⊢
    go_enter Tryz.func70, Tryz.ntmps70
    go_wp2
    go_ret
    exact ⟨rfl, rfl⟩
  · simp only [cond_true] at a1 ⊢
    go_enter Tryz.func70, Tryz.ntmps70
    go_wp2_with fail
    refine hno.mono ?_
    rintro e w1 ⟨rfl, rfl⟩
    go_wp2
    go_ret
    exact ⟨rfl, rfl⟩

theorem meaS1_any {v : Value} {p q R1 R2 : Int} (g r : Nat) (w : World) (h : MeaS w v p q R1 R2) (hg : w.cell? ⟨g, 0, none⟩ = some v) (hr : At2 w r p q) :
    Calls Tryz.prog 73 #[.pointer (some ⟨g, 0, none⟩), .pointer (some ⟨r, 0, none⟩)] w fun e w' => e = .returned (.agg #[.int .i64 R1, .int .i64 R2]) ∧ Below w.heap.size w w' := by
  obtain ⟨i, z, f, rc, rfl, _, hm0, he, hc0⟩ := h
  have L : Below w.heap.size w (w.alloc (.cells #[.int .i64 0, .int .i64 0] 23)) := (Below.refl _ w).alloc (Nat.le_refl _) _
  have hm := hm0 _ L
  have hcc := hc0 _ L
  have hc := over_alloc hg (.cells #[.int .i64 0, .int .i64 0] 23)
  obtain ⟨r0, r1⟩ := hr.alloc (.cells #[.int .i64 0, .int .i64 0] 23)
  have A := Blk.new w #[.int .i64 0, .int .i64 0] 23
  clear hg hr hm0 hc0
  go_enter Tryz.func73, Tryz.ntmps73
  go_wp2_with fail
  refine hcc.mono ?_
  rintro e w1 ⟨rfl, hb⟩
  replace A := A.below hb
  replace L := L.trans (hb.mono L.size)
  have a0 := A.cell 0
  have a1 := A.cell 1
  have fa := A.frozen
  have HL : Hid (Below w.heap.size w w1) := L
  clear A L hb hm hc r0 r1
  go_wp2
  exact bodyPost_ret (v := .agg #[.int .i64 _, .int .i64 _]) (by simp [results, Tryz.results73, go_sem, a0, a1]) rfl ⟨rfl, (HL.out.setCell (Nat.le_refl _) _).setCell (Nat.le_refl _) _⟩

/-- What the call Measure answers of a wrapped part of a node, without a room. -/
def meaQ (c : Nat) (n : Int) : Int := if c.testBit 0 then n else 0
def meaX (c : Nat) : Int := if c.testBit 0 then 0 else 8
set_option maxHeartbeats 2000000 in
theorem measure_pw {pt : Pt} {b : Nat} {l : List Wr} {v : Value} (w : World) (h : Pw w (.made pt b) l v) (hk : kindL (.made pt b) l ≠ 0) (hp : I64 (lim (lim pt.aw pt.mw) 0) ∧ I64 (lim (lim pt.ah pt.mh) 0)) :
    Calls Tryz.prog 27 #[v, .agg #[.int .i64 0, .int .i64 0]] w fun e w' => e = .returned (.tuple #[.agg #[.int .i64 (meaQ (canL (.made pt b) l) (meaL pt.aw pt.mw 0 l)), .int .i64 (meaQ (canL (.made pt b) l) (meaL pt.ah pt.mh 0 l))], .int .i64 (meaX (canL (.made pt b) l))]) ∧ Below w.heap.size w w' := by
  have hmf : ∀ (fn : Fn) (first cap : Array Value) (w : World), (Instr.makeFunc fn first cap).run Tryz.prog w = .ok (.func fn first cap) w := fun _ _ _ _ => rfl
  have L0 : Below w.heap.size w ((w.alloc (.cells #[.int .i64 0, .int .i64 0] 23)).alloc (.cells #[.int .i64 0, .int .i64 0] 23)) := ((Below.refl _ w).alloc (Nat.le_refl _) _).alloc (by simp) _
  have HM := (h.below L0).mesC hk
  have h00 : I64 0 := ⟨by decide, by decide⟩
  have HP : Hid ((canL (.made pt b) l).testBit 0 = true → ∀ w', Below w.heap.size w w' → MeaS w' v 0 0 (meaL pt.aw pt.mw 0 l) (meaL pt.ah pt.mh 0 l)) := fun hb w' hw => ((h.below hw).mea 0 0 ⟨h00, h00, hp.1, hp.2⟩ hb).1
  obtain ⟨i, z, rfl, _, _⟩ := h.tf
  clear h hk L0 hp h00
  unfold meaQ meaX
  cases hm : (canL (.made pt b) l).testBit 0
  · rw [hm] at HM
    simp only [Bool.false_eq_true, if_false]
    clear HP hm
    go_enter Tryz.func27, Tryz.ntmps27
    go_wp2_with fail
    refine HM.mono ?_
    rintro e w1 ⟨rfl, rfl⟩
    go_wp2
    exact bodyPost_ret (v := .tuple #[.agg #[.int .i64 0, .int .i64 0], .int .i64 8]) (by simp [results, Tryz.results27, go_sem]) rfl ⟨rfl, (world3 w 0 0 .nilIface _ rfl).2.2.2⟩
  · rw [hm] at HM
    have HT : Hid (∀ w', Below w.heap.size w w' → MeaS w' (.iface i z) 0 0 (meaL pt.aw pt.mw 0 l) (meaL pt.ah pt.mh 0 l)) := HP.out hm
    simp only [if_true]
    clear HP hm
    generalize meaL pt.aw pt.mw 0 l = R1 at *
    generalize meaL pt.ah pt.mh 0 l = R2 at *
    have hs := sizeMay_any 0 0 (((w.alloc (.cells #[.int .i64 0, .int .i64 0] 23)).alloc (.cells #[.int .i64 0, .int .i64 0] 23)).alloc (.cells #[.iface i z] 129))
    rw [show szB 0 0 = true from rfl] at hs
    go_enter Tryz.func27, Tryz.ntmps27
    go_wp2_with fail
    refine HM.mono ?_
    rintro e w1 ⟨rfl, rfl⟩
    go_wp2_with fail
    refine hs.mono ?_
    rintro e w1 ⟨rfl, hb⟩
    obtain ⟨A, B, C, L⟩ := world3 w 0 0 (.iface i z) _ rfl
    replace A := A.below hb
    replace B := B.below hb
    replace C := C.below hb
    replace L := L.trans (hb.mono L.size)
    have HL : Hid (At2 w1 w.heap.size 0 0 ∧ Blk w1 (w.heap.size + 1) #[.int .i64 0, .int .i64 0] 23 ∧ Blk w1 (w.heap.size + 1 + 1) #[.iface i z] 129 ∧ Below w.heap.size w w1) := ⟨A, B, C, L⟩
    clear A B C L hb hs HM
    go_wp2_with fail
    obtain ⟨A, B, C, L⟩ := HL.out
    refine (ans_size _ _ R1 R2 w1 (fun w2 hb => meaS1_any _ _ w2 (HT.out w2 (L.trans (hb.mono L.size))) ((C.below hb).cell 0) (A.below hb))).mono ?_
    rintro e w2 ⟨rfl, hb⟩
    replace B := B.below hb
    replace L := L.trans (hb.mono L.size)
    have b0 := B.cell 0
    have b1 := B.cell 1
    have fb := B.frozen
    have HL : Hid (Below w.heap.size w w2) := L
    clear A B C L hb
    go_wp2
    exact bodyPost_ret (v := .tuple #[.agg #[.int .i64 _, .int .i64 _], .int .i64 0]) (by simp [results, Tryz.results27, go_sem, b0, b1]) rfl ⟨rfl, (HL.out.setCell (le1 _) _).setCell (le1 _) _⟩

end Go.Proofs.YtbnbfgkcndomaabGreatDoor

namespace Go.Proofs.YtbnbfgkcndomaabGreatDoor
open Go.RowKit

/-- The rectangle that a wrapper hands on. -/
def insW (x : Wr) (q : Rc) : Rc := if x.kind = 3 then insR q.x q.y q.w q.h x.num else q

set_option maxRecDepth 10000 in
set_option maxHeartbeats 8000000 in
theorem wStr_any (a i : Nat) (z r : Value) (f : FuncId) (x : Wr) (q : Rc) (k : Lk) (S : List Sk) (w : World) (hB : Blk w a #[.iface i z, .int .u8 (x.kind : Nat), .int .u16 (x.mask : Nat), .int .i64 x.num, .string x.text] 119)
    (has : ∀ w', (Instr.typeAssert (.iface i z) 44 132 false).run Tryz.prog w' = .ok (.iface i z) w')
    (hm : ∀ w', Below w.heap.size w w' → ∀ n, (method (n + 1) i z "Strokes").run Tryz.prog w' = .ok (f, r) w')
    (he : ∀ args w', (callFunc f args).run Tryz.prog w' = .ok (.enter f args) w')
    (hc : ∀ w', Below w.heap.size w w' → Calls Tryz.prog f #[r, .agg #[.int .i64 (insW x q).x, .int .i64 (insW x q).y, .int .i64 (insW x q).w, .int .i64 (insW x q).h], (Value.agg #[.int .u8 (k.has : Nat), .int .u8 k.r, .int .u8 k.g, .int .u8 k.b, .int .u8 k.a, .int .u8 k.r2, .int .u8 k.g2, .int .u8 k.b2, .int .u8 k.a2, .bool k.bd, .int .i64 k.pad])] w' fun e w'' => ∃ v, e = .returned v ∧ w''.ownsRow w'.heap.size 86 15 v S.length (flatS S) ∧ Below w'.heap.size w' w'')
    (hx : I64 q.x) (hy : I64 q.y) :
    Calls Tryz.prog 236 #[.agg #[.pointer (some ⟨a, 0, none⟩)], .agg #[.int .i64 q.x, .int .i64 q.y, .int .i64 q.w, .int .i64 q.h], (Value.agg #[.int .u8 (k.has : Nat), .int .u8 k.r, .int .u8 k.g, .int .u8 k.b, .int .u8 k.a, .int .u8 k.r2, .int .u8 k.g2, .int .u8 k.b2, .int .u8 k.a2, .bool k.bd, .int .i64 k.pad])] w fun e w' => ∃ v, e = .returned v ∧ w'.ownsRow w.heap.size 86 15 v S.length (flatS S) ∧ Below w.heap.size w w' := by
  have HC : Hid (∀ w', Below w.heap.size w w' → Calls Tryz.prog f #[r, .agg #[.int .i64 (insW x q).x, .int .i64 (insW x q).y, .int .i64 (insW x q).w, .int .i64 (insW x q).h], (Value.agg #[.int .u8 (k.has : Nat), .int .u8 k.r, .int .u8 k.g, .int .u8 k.b, .int .u8 k.a, .int .u8 k.r2, .int .u8 k.g2, .int .u8 k.b2, .int .u8 k.a2, .bool k.bd, .int .i64 k.pad])] w' fun e w'' => ∃ v, e = .returned v ∧ w''.ownsRow w'.heap.size 86 15 v S.length (flatS S) ∧ Below w'.heap.size w' w'') := hc
  have HM : Hid (∀ w', Below w.heap.size w w' → ∀ n, (method (n + 1) i z "Strokes").run Tryz.prog w' = .ok (f, r) w') := hm
  clear hc hm
  -- the last region, from a world where the rectangle is what is handed on
  have last : ∀ W : World, Blk W w.heap.size #[.pointer (some ⟨a, 0, none⟩)] 234 → Blk W (w.heap.size + 1) #[.int .i64 (insW x q).x, .int .i64 (insW x q).y, .int .i64 (insW x q).w, .int .i64 (insW x q).h] 32 → Blk W (w.heap.size + 1 + 1) (#[.int .u8 (k.has : Nat), .int .u8 k.r, .int .u8 k.g, .int .u8 k.b, .int .u8 k.a, .int .u8 k.r2, .int .u8 k.g2, .int .u8 k.b2, .int .u8 k.a2, .bool k.bd, .int .i64 k.pad]) 36 → Blk W a #[.iface i z, .int .u8 (x.kind : Nat), .int .u16 (x.mask : Nat), .int .i64 x.num, .string x.text] 119 → Below w.heap.size w W → True := fun _ _ _ _ _ _ => trivial
  clear last
  have B0 : Hid (Blk (((w.alloc (.cells #[.pointer (some ⟨a, 0, none⟩)] 234)).alloc (.cells #[.int .i64 q.x, .int .i64 q.y, .int .i64 q.w, .int .i64 q.h] 32)).alloc (.cells (#[.int .u8 (k.has : Nat), .int .u8 k.r, .int .u8 k.g, .int .u8 k.b, .int .u8 k.a, .int .u8 k.r2, .int .u8 k.g2, .int .u8 k.b2, .int .u8 k.a2, .bool k.bd, .int .i64 k.pad]) 36)) w.heap.size #[.pointer (some ⟨a, 0, none⟩)] 234 ∧ Blk (((w.alloc (.cells #[.pointer (some ⟨a, 0, none⟩)] 234)).alloc (.cells #[.int .i64 q.x, .int .i64 q.y, .int .i64 q.w, .int .i64 q.h] 32)).alloc (.cells (#[.int .u8 (k.has : Nat), .int .u8 k.r, .int .u8 k.g, .int .u8 k.b, .int .u8 k.a, .int .u8 k.r2, .int .u8 k.g2, .int .u8 k.b2, .int .u8 k.a2, .bool k.bd, .int .i64 k.pad]) 36)) (w.heap.size + 1) #[.int .i64 q.x, .int .i64 q.y, .int .i64 q.w, .int .i64 q.h] 32 ∧ Blk (((w.alloc (.cells #[.pointer (some ⟨a, 0, none⟩)] 234)).alloc (.cells #[.int .i64 q.x, .int .i64 q.y, .int .i64 q.w, .int .i64 q.h] 32)).alloc (.cells (#[.int .u8 (k.has : Nat), .int .u8 k.r, .int .u8 k.g, .int .u8 k.b, .int .u8 k.a, .int .u8 k.r2, .int .u8 k.g2, .int .u8 k.b2, .int .u8 k.a2, .bool k.bd, .int .i64 k.pad]) 36)) (w.heap.size + 1 + 1) (#[.int .u8 (k.has : Nat), .int .u8 k.r, .int .u8 k.g, .int .u8 k.b, .int .u8 k.a, .int .u8 k.r2, .int .u8 k.g2, .int .u8 k.b2, .int .u8 k.a2, .bool k.bd, .int .i64 k.pad]) 36 ∧ Blk (((w.alloc (.cells #[.pointer (some ⟨a, 0, none⟩)] 234)).alloc (.cells #[.int .i64 q.x, .int .i64 q.y, .int .i64 q.w, .int .i64 q.h] 32)).alloc (.cells (#[.int .u8 (k.has : Nat), .int .u8 k.r, .int .u8 k.g, .int .u8 k.b, .int .u8 k.a, .int .u8 k.r2, .int .u8 k.g2, .int .u8 k.b2, .int .u8 k.a2, .bool k.bd, .int .i64 k.pad]) 36)) a #[.iface i z, .int .u8 (x.kind : Nat), .int .u16 (x.mask : Nat), .int .i64 x.num, .string x.text] 119 ∧ Below w.heap.size w (((w.alloc (.cells #[.pointer (some ⟨a, 0, none⟩)] 234)).alloc (.cells #[.int .i64 q.x, .int .i64 q.y, .int .i64 q.w, .int .i64 q.h] 32)).alloc (.cells (#[.int .u8 (k.has : Nat), .int .u8 k.r, .int .u8 k.g, .int .u8 k.b, .int .u8 k.a, .int .u8 k.r2, .int .u8 k.g2, .int .u8 k.b2, .int .u8 k.a2, .bool k.bd, .int .i64 k.pad]) 36))) :=
    ⟨((Blk.new _ _ _).alloc _).alloc _, (blk_new' _ _ _ _ (by simp)).alloc _, blk_new' _ _ _ _ (by simp), ((hB.alloc _).alloc _).alloc _, (((Below.refl w.heap.size w).alloc (Nat.le_refl _) _).alloc (by simp) _).alloc (by simp; omega) _⟩
  have hal : a < w.heap.size := hB.lt
  clear hB
  by_cases h3 : x.kind = 3
  case neg =>
    have n3 : ((x.kind : Int) == 3) = false := beq_eq_false_iff_ne.2 (by omega)
    have hq : insW x q = q := if_neg h3
    rw [hq] at HC
    clear hq h3
    go_enter Tryz.func236, Tryz.ntmps236
    go_upto_region 1 with fail
    generalize ((w.alloc (.cells #[.pointer (some ⟨a, 0, none⟩)] 234)).alloc (.cells #[.int .i64 q.x, .int .i64 q.y, .int .i64 q.w, .int .i64 q.h] 32)).alloc (.cells (#[.int .u8 (k.has : Nat), .int .u8 k.r, .int .u8 k.g, .int .u8 k.b, .int .u8 k.a, .int .u8 k.r2, .int .u8 k.g2, .int .u8 k.b2, .int .u8 k.a2, .bool k.bd, .int .i64 k.pad]) 36) = W at *
    have a0 := B0.out.1.cell 0
    have k1 := B0.out.2.2.2.1.cell 1
    go_upto_region 3 with fail
    refine R3.wp_region_lit 8 0 2 (fun _ _ => undef) (fun _ => .cells #[] 0) [] (by kernel_rfl) (by kernel_rfl) rfl (fun k hk => absurd hk (by omega)) rfl ?_
    apply Exists.intro
    refine ⟨fun bs ne => ?_, fun i h1 h2 => absurd h2 (by omega), ?_⟩
    · obtain ⟨A, R, K, D, L⟩ := B0.out
      have d0 := fun t : Gb W bs => (A.below t.below).cell 0
      have r0 := fun t : Gb W bs => (R.below t.below).cell 0
      have r1 := fun t : Gb W bs => (R.below t.below).cell 1
      have r2 := fun t : Gb W bs => (R.below t.below).cell 2
      have r3 := fun t : Gb W bs => (R.below t.below).cell 3
      have l0 := fun t : Gb W bs => (K.below t.below).cell 0
      have l1 := fun t : Gb W bs => (K.below t.below).cell 1
      have l2 := fun t : Gb W bs => (K.below t.below).cell 2
      have l3 := fun t : Gb W bs => (K.below t.below).cell 3
      have l4 := fun t : Gb W bs => (K.below t.below).cell 4
      have l5 := fun t : Gb W bs => (K.below t.below).cell 5
      have l6 := fun t : Gb W bs => (K.below t.below).cell 6
      have l7 := fun t : Gb W bs => (K.below t.below).cell 7
      have l8 := fun t : Gb W bs => (K.below t.below).cell 8
      have l9 := fun t : Gb W bs => (K.below t.below).cell 9
      have l10 := fun t : Gb W bs => (K.below t.below).cell 10
      have k0 := fun t : Gb W bs => (D.below t.below).cell 0
      clear A R K D L
      simp only [List.take_succ_cons, List.take_zero]
      repeat (go_big_quiet_step (first | fail))
      exact wpQuiet_nil rfl
    · intro bl wr hbl _ _
      have L : Below w.heap.size w wr := B0.out.2.2.2.2.trans (hbl.mono B0.out.2.2.2.2.size)
      have hmm := HM.out wr L
      have hcc := HC.out wr L
      have HL : Hid (Below w.heap.size w wr) := L
      clear L HM HC a0 k1
      simp only [R3.layL]
      refine wpAny_one 8 (by kernel_rfl) rfl ?_
      intro K hK
      go_simp
      refine hcc.mono ?_
      rintro e w5 ⟨v', rfl, hown, hb⟩
      refine hK _ _ ?_
      clear hK K hcc hmm
      refine wpAny_one 9 (by kernel_rfl) rfl ?_
      intro K hK
      go_simp
      refine hK _ _ ?_
      clear hK K
      refine wpAny_done (by kernel_rfl) ?_ _
      go_wp2
      go_ret
      exact ⟨_, rfl, row_base hown HL.out.size, HL.out.trans (hb.mono HL.out.size)⟩
  case pos =>
    have n3 : ((x.kind : Int) == 3) = true := by
      have : (x.kind : Int) = 3 := by omega
      rw [this]; rfl
    have hq : insW x q = insR q.x q.y q.w q.h x.num := if_pos h3
    rw [hq] at HC
    have HI : Hid (∀ W, Calls Tryz.prog 213 #[.agg #[.int .i64 q.x, .int .i64 q.y, .int .i64 q.w, .int .i64 q.h], .int .i64 x.num] W fun e w' => e = .returned (.tuple #[.agg #[.int .i64 (insR q.x q.y q.w q.h x.num).x, .int .i64 (insR q.x q.y q.w q.h x.num).y, .int .i64 (insR q.x q.y q.w q.h x.num).w, .int .i64 (insR q.x q.y q.w q.h x.num).h], .int .i64 (insE q.x q.y q.w q.h x.num)]) ∧ Below W.heap.size W w') := fun W => inset_any q.x q.y q.w q.h x.num W hx hy
    clear hq h3
    generalize insR q.x q.y q.w q.h x.num = u at *
    generalize insE q.x q.y q.w q.h x.num = ue at *
    go_enter Tryz.func236, Tryz.ntmps236
    go_upto_region 1 with fail
    generalize ((w.alloc (.cells #[.pointer (some ⟨a, 0, none⟩)] 234)).alloc (.cells #[.int .i64 q.x, .int .i64 q.y, .int .i64 q.w, .int .i64 q.h] 32)).alloc (.cells (#[.int .u8 (k.has : Nat), .int .u8 k.r, .int .u8 k.g, .int .u8 k.b, .int .u8 k.a, .int .u8 k.r2, .int .u8 k.g2, .int .u8 k.b2, .int .u8 k.a2, .bool k.bd, .int .i64 k.pad]) 36) = W0 at *
    have a0 := B0.out.1.cell 0
    have k1 := B0.out.2.2.2.1.cell 1
    go_upto_region 2 with fail
    refine R3.wp_region_lit 9 0 3 (fun _ _ => undef) (fun _ => .cells #[] 0) [] (by kernel_rfl) (by kernel_rfl) rfl (fun k hk => absurd hk (by omega)) rfl ?_
    apply Exists.intro
    refine ⟨fun bs ne => ?_, fun i h1 h2 => absurd h2 (by omega), ?_⟩
    · obtain ⟨A, R, K, D, L⟩ := B0.out
      have d0 := fun t : Gb W0 bs => (A.below t.below).cell 0
      have r0 := fun t : Gb W0 bs => (R.below t.below).cell 0
      have r1 := fun t : Gb W0 bs => (R.below t.below).cell 1
      have r2 := fun t : Gb W0 bs => (R.below t.below).cell 2
      have r3 := fun t : Gb W0 bs => (R.below t.below).cell 3
      have k3 := fun t : Gb W0 bs => (D.below t.below).cell 3
      clear A R K D L
      simp only [List.take_succ_cons, List.take_zero]
      repeat (go_big_quiet_step (first | (go_at_call 213; exact gb_call (HI.out _))))
      exact wpQuiet_nil rfl
    intro bl0 wr0 hbl0 _ _
    obtain ⟨A, R, K, D, L⟩ := B0.out
    replace A := A.below hbl0
    replace R := R.below hbl0
    replace K := K.below hbl0
    replace D := D.below hbl0
    replace L := L.trans (hbl0.mono L.size)
    have r0 := R.cell 0
    have r1 := R.cell 1
    have r2 := R.cell 2
    have r3 := R.cell 3
    have fr := R.frozen
    have R2 : Blk ((((wr0.setCell ⟨w.heap.size + 1, 0, none⟩ (.int .i64 u.x)).setCell ⟨w.heap.size + 1, 1, none⟩ (.int .i64 u.y)).setCell ⟨w.heap.size + 1, 2, none⟩ (.int .i64 u.w)).setCell ⟨w.heap.size + 1, 3, none⟩ (.int .i64 u.h)) (w.heap.size + 1) #[.int .i64 u.x, .int .i64 u.y, .int .i64 u.w, .int .i64 u.h] 32 := by simpa using (((R.put 0 (.int .i64 u.x)).put 1 (.int .i64 u.y)).put 2 (.int .i64 u.w)).put 3 (.int .i64 u.h)
    have oth : ∀ {b : Nat} {vs : Array Value} {t : TypeId}, b ≠ w.heap.size + 1 → Blk wr0 b vs t → Blk ((((wr0.setCell ⟨w.heap.size + 1, 0, none⟩ (.int .i64 u.x)).setCell ⟨w.heap.size + 1, 1, none⟩ (.int .i64 u.y)).setCell ⟨w.heap.size + 1, 2, none⟩ (.int .i64 u.w)).setCell ⟨w.heap.size + 1, 3, none⟩ (.int .i64 u.h)) b vs t := fun hb h =>
      (((h.other _ _ (by show w.heap.size + 1 ≠ _; omega)).other _ _ (by show w.heap.size + 1 ≠ _; omega)).other _ _ (by show w.heap.size + 1 ≠ _; omega)).other _ _ (by show w.heap.size + 1 ≠ _; omega)
    have B1 : Hid (Blk ((((wr0.setCell ⟨w.heap.size + 1, 0, none⟩ (.int .i64 u.x)).setCell ⟨w.heap.size + 1, 1, none⟩ (.int .i64 u.y)).setCell ⟨w.heap.size + 1, 2, none⟩ (.int .i64 u.w)).setCell ⟨w.heap.size + 1, 3, none⟩ (.int .i64 u.h)) w.heap.size #[.pointer (some ⟨a, 0, none⟩)] 234 ∧ Blk ((((wr0.setCell ⟨w.heap.size + 1, 0, none⟩ (.int .i64 u.x)).setCell ⟨w.heap.size + 1, 1, none⟩ (.int .i64 u.y)).setCell ⟨w.heap.size + 1, 2, none⟩ (.int .i64 u.w)).setCell ⟨w.heap.size + 1, 3, none⟩ (.int .i64 u.h)) (w.heap.size + 1) #[.int .i64 u.x, .int .i64 u.y, .int .i64 u.w, .int .i64 u.h] 32 ∧ Blk ((((wr0.setCell ⟨w.heap.size + 1, 0, none⟩ (.int .i64 u.x)).setCell ⟨w.heap.size + 1, 1, none⟩ (.int .i64 u.y)).setCell ⟨w.heap.size + 1, 2, none⟩ (.int .i64 u.w)).setCell ⟨w.heap.size + 1, 3, none⟩ (.int .i64 u.h)) (w.heap.size + 1 + 1) (#[.int .u8 (k.has : Nat), .int .u8 k.r, .int .u8 k.g, .int .u8 k.b, .int .u8 k.a, .int .u8 k.r2, .int .u8 k.g2, .int .u8 k.b2, .int .u8 k.a2, .bool k.bd, .int .i64 k.pad]) 36 ∧ Blk ((((wr0.setCell ⟨w.heap.size + 1, 0, none⟩ (.int .i64 u.x)).setCell ⟨w.heap.size + 1, 1, none⟩ (.int .i64 u.y)).setCell ⟨w.heap.size + 1, 2, none⟩ (.int .i64 u.w)).setCell ⟨w.heap.size + 1, 3, none⟩ (.int .i64 u.h)) a #[.iface i z, .int .u8 (x.kind : Nat), .int .u16 (x.mask : Nat), .int .i64 x.num, .string x.text] 119 ∧ Below w.heap.size w ((((wr0.setCell ⟨w.heap.size + 1, 0, none⟩ (.int .i64 u.x)).setCell ⟨w.heap.size + 1, 1, none⟩ (.int .i64 u.y)).setCell ⟨w.heap.size + 1, 2, none⟩ (.int .i64 u.w)).setCell ⟨w.heap.size + 1, 3, none⟩ (.int .i64 u.h))) :=
      ⟨oth (by omega) A, R2, oth (by omega) K, oth (by omega) D, (((L.setCell (le1 _) _).setCell (le1 _) _).setCell (le1 _) _).setCell (le1 _) _⟩
    simp only [R3.layL]
    refine wpAny_ready (rs := [9, 10]) (by kernel_rfl) (by simp) ?_
    refine AllReady.cons rfl (fun K2 hK2 => ?_) ?_
    · go_simp
      refine hK2 _ _ ?_
      clear hK2 K2
      refine wpAny_ready (rs := [10, 11]) (by kernel_rfl) (by simp) ?_
      refine AllReady.cons rfl (fun K2 hK2 => ?_) ?_
      · go_simp
        refine hK2 _ _ ?_
        clear hK2 K2
        refine wpAny_one 11 (by kernel_rfl) rfl ?_
        intro K2 hK2
        go_simp
        refine hK2 _ _ ?_
        clear hK2 K2
        refine wpAny_done (by kernel_rfl) ?_ _
        clear r0 r1 r2 r3 fr A R K D L R2 oth a0 k1 B0 hbl0
        generalize (((wr0.setCell ⟨w.heap.size + 1, 0, none⟩ (.int .i64 u.x)).setCell ⟨w.heap.size + 1, 1, none⟩ (.int .i64 u.y)).setCell ⟨w.heap.size + 1, 2, none⟩ (.int .i64 u.w)).setCell ⟨w.heap.size + 1, 3, none⟩ (.int .i64 u.h) = W at *
        have a0 := B1.out.1.cell 0
        have k1 := B1.out.2.2.2.1.cell 1
        go_upto_region 3 with fail
        refine R3.wp_region_lit 8 0 2 (fun _ _ => undef) (fun _ => .cells #[] 0) [] (by kernel_rfl) (by kernel_rfl) rfl (fun k hk => absurd hk (by omega)) rfl ?_
        apply Exists.intro
        refine ⟨fun bs ne => ?_, fun i h1 h2 => absurd h2 (by omega), ?_⟩
        · obtain ⟨A, R, K, D, L⟩ := B1.out
          have d0 := fun t : Gb W bs => (A.below t.below).cell 0
          have r0 := fun t : Gb W bs => (R.below t.below).cell 0
          have r1 := fun t : Gb W bs => (R.below t.below).cell 1
          have r2 := fun t : Gb W bs => (R.below t.below).cell 2
          have r3 := fun t : Gb W bs => (R.below t.below).cell 3
          have l0 := fun t : Gb W bs => (K.below t.below).cell 0
          have l1 := fun t : Gb W bs => (K.below t.below).cell 1
          have l2 := fun t : Gb W bs => (K.below t.below).cell 2
          have l3 := fun t : Gb W bs => (K.below t.below).cell 3
          have l4 := fun t : Gb W bs => (K.below t.below).cell 4
          have l5 := fun t : Gb W bs => (K.below t.below).cell 5
          have l6 := fun t : Gb W bs => (K.below t.below).cell 6
          have l7 := fun t : Gb W bs => (K.below t.below).cell 7
          have l8 := fun t : Gb W bs => (K.below t.below).cell 8
          have l9 := fun t : Gb W bs => (K.below t.below).cell 9
          have l10 := fun t : Gb W bs => (K.below t.below).cell 10
          have k0 := fun t : Gb W bs => (D.below t.below).cell 0
          clear A R K D L
          simp only [List.take_succ_cons, List.take_zero]
          repeat (go_big_quiet_step (first | fail))
          exact wpQuiet_nil rfl
        · intro bl wr hbl _ _
          have L : Below w.heap.size w wr := B1.out.2.2.2.2.trans (hbl.mono B1.out.2.2.2.2.size)
          have hmm := HM.out wr L
          have hcc := HC.out wr L
          have HL : Hid (Below w.heap.size w wr) := L
          clear L HM HC a0 k1
          simp only [R3.layL]
          refine wpAny_one 8 (by kernel_rfl) rfl ?_
          intro K hK
          go_simp
          refine hcc.mono ?_
          rintro e w5 ⟨v', rfl, hown, hb⟩
          refine hK _ _ ?_
          clear hK K hcc hmm
          refine wpAny_one 9 (by kernel_rfl) rfl ?_
          intro K hK
          go_simp
          refine hK _ _ ?_
          clear hK K
          refine wpAny_done (by kernel_rfl) ?_ _
          go_wp2
          go_ret
          exact ⟨_, rfl, row_base hown HL.out.size, HL.out.trans (hb.mono HL.out.size)⟩
      refine AllReady.cons rfl (fun K2 hK2 => ?_) ?_
      · go_simp
        refine hK2 _ _ ?_
        clear hK2 K2
        refine wpAny_one 10 (by kernel_rfl) rfl ?_
        intro K2 hK2
        go_simp
        refine hK2 _ _ ?_
        clear hK2 K2
        refine wpAny_done (by kernel_rfl) ?_ _
        clear r0 r1 r2 r3 fr A R K D L R2 oth a0 k1 B0 hbl0
        generalize (((wr0.setCell ⟨w.heap.size + 1, 0, none⟩ (.int .i64 u.x)).setCell ⟨w.heap.size + 1, 1, none⟩ (.int .i64 u.y)).setCell ⟨w.heap.size + 1, 2, none⟩ (.int .i64 u.w)).setCell ⟨w.heap.size + 1, 3, none⟩ (.int .i64 u.h) = W at *
        have a0 := B1.out.1.cell 0
        have k1 := B1.out.2.2.2.1.cell 1
        go_upto_region 3 with fail
        refine R3.wp_region_lit 8 0 2 (fun _ _ => undef) (fun _ => .cells #[] 0) [] (by kernel_rfl) (by kernel_rfl) rfl (fun k hk => absurd hk (by omega)) rfl ?_
        apply Exists.intro
        refine ⟨fun bs ne => ?_, fun i h1 h2 => absurd h2 (by omega), ?_⟩
        · obtain ⟨A, R, K, D, L⟩ := B1.out
          have d0 := fun t : Gb W bs => (A.below t.below).cell 0
          have r0 := fun t : Gb W bs => (R.below t.below).cell 0
          have r1 := fun t : Gb W bs => (R.below t.below).cell 1
          have r2 := fun t : Gb W bs => (R.below t.below).cell 2
          have r3 := fun t : Gb W bs => (R.below t.below).cell 3
          have l0 := fun t : Gb W bs => (K.below t.below).cell 0
          have l1 := fun t : Gb W bs => (K.below t.below).cell 1
          have l2 := fun t : Gb W bs => (K.below t.below).cell 2
          have l3 := fun t : Gb W bs => (K.below t.below).cell 3
          have l4 := fun t : Gb W bs => (K.below t.below).cell 4
          have l5 := fun t : Gb W bs => (K.below t.below).cell 5
          have l6 := fun t : Gb W bs => (K.below t.below).cell 6
          have l7 := fun t : Gb W bs => (K.below t.below).cell 7
          have l8 := fun t : Gb W bs => (K.below t.below).cell 8
          have l9 := fun t : Gb W bs => (K.below t.below).cell 9
          have l10 := fun t : Gb W bs => (K.below t.below).cell 10
          have k0 := fun t : Gb W bs => (D.below t.below).cell 0
          clear A R K D L
          simp only [List.take_succ_cons, List.take_zero]
          repeat (go_big_quiet_step (first | fail))
          exact wpQuiet_nil rfl
        · intro bl wr hbl _ _
          have L : Below w.heap.size w wr := B1.out.2.2.2.2.trans (hbl.mono B1.out.2.2.2.2.size)
          have hmm := HM.out wr L
          have hcc := HC.out wr L
          have HL : Hid (Below w.heap.size w wr) := L
          clear L HM HC a0 k1
          simp only [R3.layL]
          refine wpAny_one 8 (by kernel_rfl) rfl ?_
          intro K hK
          go_simp
          refine hcc.mono ?_
          rintro e w5 ⟨v', rfl, hown, hb⟩
          refine hK _ _ ?_
          clear hK K hcc hmm
          refine wpAny_one 9 (by kernel_rfl) rfl ?_
          intro K hK
          go_simp
          refine hK _ _ ?_
          clear hK K
          refine wpAny_done (by kernel_rfl) ?_ _
          go_wp2
          go_ret
          exact ⟨_, rfl, row_base hown HL.out.size, HL.out.trans (hb.mono HL.out.size)⟩
      exact AllReady.nil
    refine AllReady.cons rfl (fun K2 hK2 => ?_) ?_
    · go_simp
      refine hK2 _ _ ?_
      clear hK2 K2
      refine wpAny_one 9 (by kernel_rfl) rfl ?_
      intro K2 hK2
      go_simp
      refine hK2 _ _ ?_
      clear hK2 K2
      refine wpAny_one 11 (by kernel_rfl) rfl ?_
      intro K2 hK2
      go_simp
      refine hK2 _ _ ?_
      clear hK2 K2
      refine wpAny_done (by kernel_rfl) ?_ _
      clear r0 r1 r2 r3 fr A R K D L R2 oth a0 k1 B0 hbl0
      generalize (((wr0.setCell ⟨w.heap.size + 1, 0, none⟩ (.int .i64 u.x)).setCell ⟨w.heap.size + 1, 1, none⟩ (.int .i64 u.y)).setCell ⟨w.heap.size + 1, 2, none⟩ (.int .i64 u.w)).setCell ⟨w.heap.size + 1, 3, none⟩ (.int .i64 u.h) = W at *
      have a0 := B1.out.1.cell 0
      have k1 := B1.out.2.2.2.1.cell 1
      go_upto_region 3 with fail
      refine R3.wp_region_lit 8 0 2 (fun _ _ => undef) (fun _ => .cells #[] 0) [] (by kernel_rfl) (by kernel_rfl) rfl (fun k hk => absurd hk (by omega)) rfl ?_
      apply Exists.intro
      refine ⟨fun bs ne => ?_, fun i h1 h2 => absurd h2 (by omega), ?_⟩
      · obtain ⟨A, R, K, D, L⟩ := B1.out
        have d0 := fun t : Gb W bs => (A.below t.below).cell 0
        have r0 := fun t : Gb W bs => (R.below t.below).cell 0
        have r1 := fun t : Gb W bs => (R.below t.below).cell 1
        have r2 := fun t : Gb W bs => (R.below t.below).cell 2
        have r3 := fun t : Gb W bs => (R.below t.below).cell 3
        have l0 := fun t : Gb W bs => (K.below t.below).cell 0
        have l1 := fun t : Gb W bs => (K.below t.below).cell 1
        have l2 := fun t : Gb W bs => (K.below t.below).cell 2
        have l3 := fun t : Gb W bs => (K.below t.below).cell 3
        have l4 := fun t : Gb W bs => (K.below t.below).cell 4
        have l5 := fun t : Gb W bs => (K.below t.below).cell 5
        have l6 := fun t : Gb W bs => (K.below t.below).cell 6
        have l7 := fun t : Gb W bs => (K.below t.below).cell 7
        have l8 := fun t : Gb W bs => (K.below t.below).cell 8
        have l9 := fun t : Gb W bs => (K.below t.below).cell 9
        have l10 := fun t : Gb W bs => (K.below t.below).cell 10
        have k0 := fun t : Gb W bs => (D.below t.below).cell 0
        clear A R K D L
        simp only [List.take_succ_cons, List.take_zero]
        repeat (go_big_quiet_step (first | fail))
        exact wpQuiet_nil rfl
      · intro bl wr hbl _ _
        have L : Below w.heap.size w wr := B1.out.2.2.2.2.trans (hbl.mono B1.out.2.2.2.2.size)
        have hmm := HM.out wr L
        have hcc := HC.out wr L
        have HL : Hid (Below w.heap.size w wr) := L
        clear L HM HC a0 k1
        simp only [R3.layL]
        refine wpAny_one 8 (by kernel_rfl) rfl ?_
        intro K hK
        go_simp
        refine hcc.mono ?_
        rintro e w5 ⟨v', rfl, hown, hb⟩
        refine hK _ _ ?_
        clear hK K hcc hmm
        refine wpAny_one 9 (by kernel_rfl) rfl ?_
        intro K hK
        go_simp
        refine hK _ _ ?_
        clear hK K
        refine wpAny_done (by kernel_rfl) ?_ _
        go_wp2
        go_ret
        exact ⟨_, rfl, row_base hown HL.out.size, HL.out.trans (hb.mono HL.out.size)⟩
    exact AllReady.nil

end Go.Proofs.YtbnbfgkcndomaabGreatDoor

namespace Go.Proofs.YtbnbfgkcndomaabGreatDoor
open Go.RowKit

def insL : List Wr → Rc → Rc
  | [], q => q
  | x :: l, q => insL l (insW x q)
theorem ins_i64 (x : Wr) (q : Rc) (h : I64 q.x ∧ I64 q.y) : I64 (insW x q).x ∧ I64 (insW x q).y := by
  unfold insW
  split
  · unfold insR
    split
    · unfold szR
      split
      · rename_i hm
        simp only [mayB, Bool.and_eq_true, spanB, decide_eq_true_eq] at hm
        obtain ⟨h1, h2⟩ := hm
        exact ⟨⟨by omega, by omega⟩, ⟨by omega, by omega⟩⟩
      · exact ⟨⟨by decide, by decide⟩, ⟨by decide, by decide⟩⟩
    · exact ⟨⟨by decide, by decide⟩, ⟨by decide, by decide⟩⟩
  · exact h

/-- A value that paints: the method, and what it answers. -/
def StrS (w : World) (v : Value) (q : Rc) (k : Lk) (S : List Sk) : Prop :=
  ∃ i z f r, v = .iface i z ∧ (∀ w', (Instr.typeAssert (.iface i z) 44 132 false).run Tryz.prog w' = .ok (.iface i z) w') ∧ (∀ w', Below w.heap.size w w' → ∀ n, (method (n + 1) i z "Strokes").run Tryz.prog w' = .ok (f, r) w') ∧ (∀ args w', (callFunc f args).run Tryz.prog w' = .ok (.enter f args) w') ∧
    (∀ w', Below w.heap.size w w' → Calls Tryz.prog f #[r, .agg #[.int .i64 q.x, .int .i64 q.y, .int .i64 q.w, .int .i64 q.h], (Value.agg #[.int .u8 (k.has : Nat), .int .u8 k.r, .int .u8 k.g, .int .u8 k.b, .int .u8 k.a, .int .u8 k.r2, .int .u8 k.g2, .int .u8 k.b2, .int .u8 k.a2, .bool k.bd, .int .i64 k.pad])] w' fun e w'' => ∃ v', e = .returned v' ∧ w''.ownsRow w'.heap.size 86 15 v' S.length (flatS S) ∧ Below w'.heap.size w' w'')
theorem Pw.one2 {w : World} {B : Bs} {l : List Wr} {i : Nat} {z : Value} (h : Pw w B l (.iface i z)) (hb : (canL B l).testBit 1 = true) (w' : World) : (Instr.typeAssert (.iface i z) 44 132 false).run Tryz.prog w' = .ok (.iface i z) w' := by
  obtain ⟨i1, y1, hv1, hf, _⟩ := h.tf
  obtain ⟨rfl, rfl⟩ : i = i1 ∧ z = y1 := by cases hv1; exact ⟨rfl, rfl⟩
  have := hf.a2 z w'
  rw [hb] at this
  exact assert_of Tryz.underlying132 this
theorem Pw.str {w : World} {pt : Pt} {b : Nat} (k : Lk) : ∀ {l : List Wr} {v : Value}, Pw w (.made pt b) l v → (canL (.made pt b) l).testBit 1 = true → ∀ q : Rc, I64 q.x → I64 q.y → StrS w v q k (paiL pt.tx (insL l q) k)
  | [], v, h, hb, q, hx, hy => by
    have h0 := h
    obtain ⟨rfl, ho⟩ := h
    exact ⟨_, _, 206, .agg #[.string pt.tx], rfl, h0.one2 hb, fun w' hw n => (ho.1.below hw).str (by rw [pai_bit]; exact hb) n, fun _ _ => by kernel_rfl, fun w' hw => (painting_any _ q k w' hx hy).mono fun e w'' ⟨v', he, ho', hb'⟩ => ⟨v', he, row_base ho' (by omega), hb'⟩⟩
  | x :: l, v, h, hb, q, hx, hy => by
    have h0 := h
    obtain ⟨bb, a, iv, e, h1, h2, h3, h4, h5⟩ := h
    have hb2 := bit_lef _ _ 1 (.inr (.inl rfl)) hb
    have hi := ins_i64 x q ⟨hx, hy⟩
    obtain ⟨i, z, f, r, rfl, has, hm, he, hc⟩ := Pw.str k h5 hb2 (insW x q) hi.1 hi.2
    subst e
    exact ⟨_, _, 236, .agg #[.pointer (some ⟨a, 0, none⟩)], rfl, h0.one2 hb, fun w' hw n => mw_Strokes _ h3 hb n bb a w' (fun j _ hj => (h1.below hw).2 j hj), fun _ _ => by kernel_rfl, fun w' hw =>
      wStr_any a i z r f x q k _ w' (h2.below hw) has (fun w'' hw' => hm w'' (hw.trans (hw'.mono hw.size))) he (fun w'' hw' => hc w'' (hw.trans (hw'.mono hw.size))) hx hy⟩

theorem Pw.paiC {w : World} {B : Bs} {l : List Wr} {v : Value} (h : Pw w B l v) (hk : kindL B l ≠ 0) :
    Calls Tryz.prog 74 #[v] w fun e w' => e = .returned (bif (canL B l).testBit 1 then v else .nilIface) ∧ w' = w := by
  have hno := h.noneC
  rw [decide_eq_false hk] at hno
  obtain ⟨i, z, rfl, hf, _⟩ := h.tf
  have a2 := hf.a2
  clear h hk hf
  generalize (canL B l).testBit 1 = bt at *
  cases bt
  · simp only [cond_false] at a2 ⊢
    go_enter Tryz.func74, Tryz.ntmps74
    go_wp2
    go_ret
    exact ⟨rfl, rfl⟩
  · simp only [cond_true] at a2 ⊢
    go_enter Tryz.func74, Tryz.ntmps74
    go_wp2_with fail
    refine hno.mono ?_
    rintro e w1 ⟨rfl, rfl⟩
    go_wp2
    go_ret
    exact ⟨rfl, rfl⟩

theorem strS1_any {v : Value} {r : Rc} {k : Lk} {S : List Sk} (g q y : Nat) (w : World) (h : StrS w v r k S) (hg : w.cell? ⟨g, 0, none⟩ = some v) (hq : At4 w q r.x r.y r.w r.h) {T : TypeId} (hl : Blk w y (#[.int .u8 (k.has : Nat), .int .u8 k.r, .int .u8 k.g, .int .u8 k.b, .int .u8 k.a, .int .u8 k.r2, .int .u8 k.g2, .int .u8 k.b2, .int .u8 k.a2, .bool k.bd, .int .i64 k.pad]) T) :
    Calls Tryz.prog 78 #[.pointer (some ⟨g, 0, none⟩), .pointer (some ⟨q, 0, none⟩), .pointer (some ⟨y, 0, none⟩)] w fun e w' => ∃ v, e = .returned v ∧ w'.ownsRow w.heap.size 86 15 v S.length (flatS S) ∧ Below w.heap.size w w' := by
  obtain ⟨i, z, f, rc, rfl, _, hm0, he, hc0⟩ := h
  have hm := hm0 w (Below.refl _ _)
  have hP := hc0 w (Below.refl _ _)
  obtain ⟨r0, r1, r2, r3⟩ := hq
  obtain ⟨k0, k1, k2, k3, k4, k5, k6, k7, k8, k9, k10⟩ := hl.look
  clear hl hm0 hc0
  go_enter Tryz.func78, Tryz.ntmps78
  go_wp2_with fail
  refine hP.mono ?_
  rintro e w1 ⟨v, rfl, hown, hb⟩
  go_wp2
  go_ret
  exact ⟨v, rfl, hown, hb⟩

/-- What the call Strokes answers of a wrapped part of a node. -/
def strX (c : Nat) (r : Rc) (k : Lk) : Int := if c.testBit 1 = false then 8 else if mayB r.x r.y r.w r.h = false then 5 else if fromTo k.pad 0 16384 = false then 2 else 0
def strY (c : Nat) (r : Rc) (k : Lk) (S : List Sk) : List Sk := if strX c r k = 0 then S else []
set_option maxHeartbeats 2000000 in
theorem strokes_pw {pt : Pt} {b : Nat} {l : List Wr} {v : Value} (r : Rc) (k : Lk) (w : World) (h : Pw w (.made pt b) l v) (hk : kindL (.made pt b) l ≠ 0) (hx : I64 r.x) (hy : I64 r.y) :
    Calls Tryz.prog 28 #[v, .agg #[.int .i64 r.x, .int .i64 r.y, .int .i64 r.w, .int .i64 r.h], (Value.agg #[.int .u8 (k.has : Nat), .int .u8 k.r, .int .u8 k.g, .int .u8 k.b, .int .u8 k.a, .int .u8 k.r2, .int .u8 k.g2, .int .u8 k.b2, .int .u8 k.a2, .bool k.bd, .int .i64 k.pad])] w fun e w' => ∃ v, e = .returned (.tuple #[v, .int .i64 (strX (canL (.made pt b) l) r k)]) ∧ w'.ownsRow w.heap.size 86 15 v (strY (canL (.made pt b) l) r k (paiL pt.tx (insL l r) k)).length (flatS (strY (canL (.made pt b) l) r k (paiL pt.tx (insL l r) k))) ∧ Below w.heap.size w w' := by
  have hmf : ∀ (fn : Fn) (first cap : Array Value) (w : World), (Instr.makeFunc fn first cap).run Tryz.prog w = .ok (.func fn first cap) w := fun _ _ _ _ => rfl
  have L0 : Below w.heap.size w ((w.alloc (.cells #[.int .i64 r.x, .int .i64 r.y, .int .i64 r.w, .int .i64 r.h] 32)).alloc (.cells (#[.int .u8 (k.has : Nat), .int .u8 k.r, .int .u8 k.g, .int .u8 k.b, .int .u8 k.a, .int .u8 k.r2, .int .u8 k.g2, .int .u8 k.b2, .int .u8 k.a2, .bool k.bd, .int .i64 k.pad]) 36)) := ((Below.refl _ w).alloc (Nat.le_refl _) _).alloc (by simp) _
  have HM := (h.below L0).paiC hk
  have HP : Hid ((canL (.made pt b) l).testBit 1 = true → ∀ w', Below w.heap.size w w' → StrS w' v r k (paiL pt.tx (insL l r) k)) := fun hb w' hw => (h.below hw).str k hb r hx hy
  obtain ⟨i, z, rfl, _, _⟩ := h.tf
  have HX : Hid (I64 r.x ∧ I64 r.y) := ⟨hx, hy⟩
  have HK : Hid (∀ W, Calls Tryz.prog 75 #[.agg #[.int .i64 r.x, .int .i64 r.y, .int .i64 r.w, .int .i64 r.h]] W fun e w' => e = .returned (.int .i64 (chk r.x r.y r.w r.h)) ∧ Below W.heap.size W w') := fun W => check_any _ _ _ _ W hx hy
  have HV : Hid (∀ W, Calls Tryz.prog 76 #[.int .i64 k.pad, .int .i64 0, .int .i64 16384] W fun e w' => e = .returned (.bool (fromTo k.pad 0 16384)) ∧ w' = W) := fun W => pwithin_any _ _ _ W
  clear h hk hx hy L0
  generalize paiL pt.tx (insL l r) k = S at *
  generalize canL (.made pt b) l = cc at *
  cases hm : cc.testBit 1
  · rw [hm] at HM
    have e1 : strX cc r k = 8 := by simp [strX, hm]
    have e2 : strY cc r k S = [] := by simp [strY, e1]
    rw [e1, e2]
    clear e1 e2
    clear hm
    go_enter Tryz.func28, Tryz.ntmps28
    go_wp2_with fail
    refine HM.mono ?_
    rintro e w1 ⟨rfl, rfl⟩
    go_wp2
    exact bodyPost_ret (v := .tuple #[.slice none 0 0, .int .i64 8]) (by simp [results, Tryz.results28, go_sem]) rfl ⟨_, rfl, World.ownsRow_nil _ _ _ _, (world3s w r k .nilIface _ rfl).2.2.2⟩
  · rw [hm] at HM
    have HT : Hid (∀ w', Below w.heap.size w w' → StrS w' (.iface i z) r k S) := HP.out hm
    cases hz : mayB r.x r.y r.w r.h
    · have e1 : strX cc r k = 5 := by simp [strX, hm, hz]
      have e2 : strY cc r k S = [] := by simp [strY, e1]
      rw [e1, e2]
      clear e1 e2
      rw [show chk r.x r.y r.w r.h = 5 by simp [chk, hz]] at HK
      clear hm hz
      go_enter Tryz.func28, Tryz.ntmps28
      go_wp2_with fail
      refine HM.mono ?_
      rintro e w1 ⟨rfl, rfl⟩
      go_wp2_with fail
      refine (HK.out _).mono ?_
      rintro e w1 ⟨rfl, hb⟩
      obtain ⟨A, B, C, L⟩ := world3s w r k (.iface i z) _ rfl
      replace L := L.trans (hb.mono L.size)
      clear A B C hb HM
      go_wp2
      exact bodyPost_ret (v := .tuple #[.slice none 0 0, .int .i64 5]) (by simp [results, Tryz.results28, go_sem]) rfl ⟨_, rfl, World.ownsRow_nil _ _ _ _, L⟩
    · rw [show chk r.x r.y r.w r.h = 0 by simp [chk, hz]] at HK
      cases hf : fromTo k.pad 0 16384
      · have e1 : strX cc r k = 2 := by simp [strX, hm, hz, hf]
        have e2 : strY cc r k S = [] := by simp [strY, e1]
        rw [e1, e2]
        clear e1 e2
        rw [hf] at HV
        clear hm hz hf
        go_enter Tryz.func28, Tryz.ntmps28
        go_wp2_with fail
        refine HM.mono ?_
        rintro e w1 ⟨rfl, rfl⟩
        go_wp2_with fail
        refine (HK.out _).mono ?_
        rintro e w1 ⟨rfl, hb⟩
        obtain ⟨A, B, C, L⟩ := world3s w r k (.iface i z) _ rfl
        replace L := L.trans (hb.mono L.size)
        replace B := B.below hb
        have k10 := B.look.2.2.2.2.2.2.2.2.2.2
        clear A B C hb HM
        go_wp2_with fail
        refine (HV.out _).mono ?_
        rintro e w2 ⟨rfl, rfl⟩
        go_wp2
        exact bodyPost_ret (v := .tuple #[.slice none 0 0, .int .i64 2]) (by simp [results, Tryz.results28, go_sem]) rfl ⟨_, rfl, World.ownsRow_nil _ _ _ _, L⟩
      · have e1 : strX cc r k = 0 := by simp [strX, hm, hz, hf]
        have e2 : strY cc r k S = S := by simp [strY, e1]
        rw [e1, e2]
        clear e1 e2
        rw [hf] at HV
        clear hm hz hf
        go_enter Tryz.func28, Tryz.ntmps28
        go_wp2_with fail
        refine HM.mono ?_
        rintro e w1 ⟨rfl, rfl⟩
        go_wp2_with fail
        refine (HK.out _).mono ?_
        rintro e w1 ⟨rfl, hb⟩
        obtain ⟨A, B, C, L⟩ := world3s w r k (.iface i z) _ rfl
        replace L := L.trans (hb.mono L.size)
        replace A := A.below hb
        replace B := B.below hb
        replace C := C.below hb
        have k10 := B.look.2.2.2.2.2.2.2.2.2.2
        have HL : Hid (At4 w1 w.heap.size r.x r.y r.w r.h ∧ Blk w1 (w.heap.size + 1) (#[.int .u8 (k.has : Nat), .int .u8 k.r, .int .u8 k.g, .int .u8 k.b, .int .u8 k.a, .int .u8 k.r2, .int .u8 k.g2, .int .u8 k.b2, .int .u8 k.a2, .bool k.bd, .int .i64 k.pad]) 36 ∧ Blk w1 (w.heap.size + 1 + 1) #[.iface i z] 132 ∧ Below w.heap.size w w1) := ⟨A, B, C, L⟩
        clear A B C L hb HM
        go_wp2_with fail
        refine (HV.out _).mono ?_
        rintro e w2 ⟨rfl, rfl⟩
        go_wp2_with fail
        obtain ⟨A, B, C, L⟩ := HL.out
        refine (ansR_strokes _ _ _ S w2 (fun w3 hb _ => strS1_any _ _ _ w3 (HT.out w3 (L.trans (hb.mono L.size))) ((C.below hb).cell 0) (A.below hb) (B.below hb))).mono ?_
        rintro e w3 ⟨v, rfl, hown, hb⟩
        have R3' : Hid (w3.ownsRow w2.heap.size 86 15 v S.length (flatS S) ∧ Below w.heap.size w w3 ∧ w.heap.size ≤ w2.heap.size) := ⟨hown, L.trans (hb.mono L.size), L.size⟩
        clear A B C L hb hown k10 HL
        go_wp2
        exact bodyPost_ret (v := .tuple #[v, .int .i64 0]) (by simp [results, Tryz.results28, go_sem]) rfl ⟨v, rfl, row_base R3'.out.1 R3'.out.2.2, R3'.out.2.1⟩


end Go.Proofs.YtbnbfgkcndomaabGreatDoor
