/-
  The 64 types of wrappers: assertions, and the methods that they have of the wrapper within.
-/
import Derived.Test.YtbnbfgkcndomaabGreatDoorVT
namespace Go.Proofs.YtbnbfgkcndomaabGreatDoor
open Go.RowKit

/-- A block whose first cells all point to the same block. -/
def PtrC (w : World) (b n a : Nat) : Prop := b < w.heap.size ∧ ∀ j, j < n → w.cell? ⟨b, j, none⟩ = some (.pointer (some ⟨a, 0, none⟩))
theorem PtrC.below {w w' : World} {b n a : Nat} (h : PtrC w b n a) (hb : Below w.heap.size w w') : PtrC w' b n a := ⟨Nat.lt_of_lt_of_le h.1 hb.size, fun j hj => (hb.cell (p := ⟨b, j, none⟩) h.1).trans (h.2 j hj)⟩
theorem ptr1 {w : World} {b a : Nat} {T : TypeId} (h : Blk w b #[.pointer (some ⟨a, 0, none⟩)] T) : PtrC w b 1 a := ⟨h.lt, fun j hj => match j, hj with
  | 0, _ => h.cell 0
  | j + 1, hj => absurd hj (by omega)⟩
theorem ptr2 {w : World} {b a : Nat} {T : TypeId} (h : Blk w b #[.pointer (some ⟨a, 0, none⟩), .pointer (some ⟨a, 0, none⟩)] T) : PtrC w b 2 a := ⟨h.lt, fun j hj => match j, hj with
  | 0, _ => h.cell 0
  | 1, _ => h.cell 1
  | j + 2, hj => absurd hj (by omega)⟩
theorem ptr3 {w : World} {b a : Nat} {T : TypeId} (h : Blk w b #[.pointer (some ⟨a, 0, none⟩), .pointer (some ⟨a, 0, none⟩), .pointer (some ⟨a, 0, none⟩)] T) : PtrC w b 3 a := ⟨h.lt, fun j hj => match j, hj with
  | 0, _ => h.cell 0
  | 1, _ => h.cell 1
  | 2, _ => h.cell 2
  | j + 3, hj => absurd hj (by omega)⟩
theorem ptr4 {w : World} {b a : Nat} {T : TypeId} (h : Blk w b #[.pointer (some ⟨a, 0, none⟩), .pointer (some ⟨a, 0, none⟩), .pointer (some ⟨a, 0, none⟩), .pointer (some ⟨a, 0, none⟩)] T) : PtrC w b 4 a := ⟨h.lt, fun j hj => match j, hj with
  | 0, _ => h.cell 0
  | 1, _ => h.cell 1
  | 2, _ => h.cell 2
  | 3, _ => h.cell 3
  | j + 4, hj => absurd hj (by omega)⟩
theorem ptr5 {w : World} {b a : Nat} {T : TypeId} (h : Blk w b #[.pointer (some ⟨a, 0, none⟩), .pointer (some ⟨a, 0, none⟩), .pointer (some ⟨a, 0, none⟩), .pointer (some ⟨a, 0, none⟩), .pointer (some ⟨a, 0, none⟩)] T) : PtrC w b 5 a := ⟨h.lt, fun j hj => match j, hj with
  | 0, _ => h.cell 0
  | 1, _ => h.cell 1
  | 2, _ => h.cell 2
  | 3, _ => h.cell 3
  | 4, _ => h.cell 4
  | j + 5, hj => absurd hj (by omega)⟩
theorem ptr6 {w : World} {b a : Nat} {T : TypeId} (h : Blk w b #[.pointer (some ⟨a, 0, none⟩), .pointer (some ⟨a, 0, none⟩), .pointer (some ⟨a, 0, none⟩), .pointer (some ⟨a, 0, none⟩), .pointer (some ⟨a, 0, none⟩), .pointer (some ⟨a, 0, none⟩)] T) : PtrC w b 6 a := ⟨h.lt, fun j hj => match j, hj with
  | 0, _ => h.cell 0
  | 1, _ => h.cell 1
  | 2, _ => h.cell 2
  | 3, _ => h.cell 3
  | 4, _ => h.cell 4
  | 5, _ => h.cell 5
  | j + 6, hj => absurd hj (by omega)⟩
theorem ptr7 {w : World} {b a : Nat} {T : TypeId} (h : Blk w b #[.pointer (some ⟨a, 0, none⟩), .pointer (some ⟨a, 0, none⟩), .pointer (some ⟨a, 0, none⟩), .pointer (some ⟨a, 0, none⟩), .pointer (some ⟨a, 0, none⟩), .pointer (some ⟨a, 0, none⟩), .pointer (some ⟨a, 0, none⟩)] T) : PtrC w b 7 a := ⟨h.lt, fun j hj => match j, hj with
  | 0, _ => h.cell 0
  | 1, _ => h.cell 1
  | 2, _ => h.cell 2
  | 3, _ => h.cell 3
  | 4, _ => h.cell 4
  | 5, _ => h.cell 5
  | 6, _ => h.cell 6
  | j + 7, hj => absurd hj (by omega)⟩

theorem blk_new' (w : World) (b : Nat) (vs : Array Value) (t : TypeId) (h : b = w.heap.size) : Blk (w.alloc (.cells vs t)) b vs t := by subst h; exact Blk.new _ _ _
/-- The type of a wrapper that can just this. -/
def cid : Nat → Nat
  | 0 => 383
  | 1 => 386
  | 2 => 389
  | 3 => 392
  | 4 => 395
  | 5 => 398
  | 6 => 401
  | 7 => 404
  | 8 => 407
  | 9 => 410
  | 10 => 413
  | 11 => 416
  | 12 => 419
  | 13 => 422
  | 14 => 425
  | 15 => 428
  | 16 => 238
  | 17 => 241
  | 18 => 244
  | 19 => 247
  | 20 => 250
  | 21 => 253
  | 22 => 256
  | 23 => 259
  | 24 => 262
  | 25 => 265
  | 26 => 268
  | 27 => 271
  | 28 => 274
  | 29 => 277
  | 30 => 280
  | 31 => 283
  | 32 => 287
  | 33 => 290
  | 34 => 293
  | 35 => 296
  | 36 => 299
  | 37 => 302
  | 38 => 305
  | 39 => 308
  | 40 => 311
  | 41 => 314
  | 42 => 317
  | 43 => 320
  | 44 => 323
  | 45 => 326
  | 46 => 329
  | 47 => 332
  | 48 => 335
  | 49 => 338
  | 50 => 341
  | 51 => 344
  | 52 => 347
  | 53 => 350
  | 54 => 353
  | 55 => 356
  | 56 => 359
  | 57 => 362
  | 58 => 365
  | 59 => 368
  | 60 => 371
  | 61 => 374
  | 62 => 377
  | _ => 380
theorem tf_c0 : Tf 383 false false false false false false true where
  a1 := fun v w => run_typeAssert_lacksB Tryz.underlying129 (by kernel_rfl) (by kernel_rfl) v _ w
  a2 := fun v w => run_typeAssert_lacksB Tryz.underlying132 (by kernel_rfl) (by kernel_rfl) v _ w
  a4 := fun v w => run_typeAssert_lacksB Tryz.underlying135 (by kernel_rfl) (by kernel_rfl) v _ w
  a8 := fun v w => run_typeAssert_lacksB Tryz.underlying138 (by kernel_rfl) (by kernel_rfl) v _ w
  a16 := fun v w => run_typeAssert_lacksB Tryz.underlying141 (by kernel_rfl) (by kernel_rfl) v _ w
  a32 := fun v w => run_typeAssert_lacksB Tryz.underlying144 (by kernel_rfl) (by kernel_rfl) v _ w
  au := fun v w => run_typeAssert_hasB Tryz.underlying74 (by kernel_rfl) v _ w
theorem tf_c1 : Tf 386 true false false false false false true where
  a1 := fun v w => run_typeAssert_hasB Tryz.underlying129 (by kernel_rfl) v _ w
  a2 := fun v w => run_typeAssert_lacksB Tryz.underlying132 (by kernel_rfl) (by kernel_rfl) v _ w
  a4 := fun v w => run_typeAssert_lacksB Tryz.underlying135 (by kernel_rfl) (by kernel_rfl) v _ w
  a8 := fun v w => run_typeAssert_lacksB Tryz.underlying138 (by kernel_rfl) (by kernel_rfl) v _ w
  a16 := fun v w => run_typeAssert_lacksB Tryz.underlying141 (by kernel_rfl) (by kernel_rfl) v _ w
  a32 := fun v w => run_typeAssert_lacksB Tryz.underlying144 (by kernel_rfl) (by kernel_rfl) v _ w
  au := fun v w => run_typeAssert_hasB Tryz.underlying74 (by kernel_rfl) v _ w
theorem tf_c2 : Tf 389 false true false false false false true where
  a1 := fun v w => run_typeAssert_lacksB Tryz.underlying129 (by kernel_rfl) (by kernel_rfl) v _ w
  a2 := fun v w => run_typeAssert_hasB Tryz.underlying132 (by kernel_rfl) v _ w
  a4 := fun v w => run_typeAssert_lacksB Tryz.underlying135 (by kernel_rfl) (by kernel_rfl) v _ w
  a8 := fun v w => run_typeAssert_lacksB Tryz.underlying138 (by kernel_rfl) (by kernel_rfl) v _ w
  a16 := fun v w => run_typeAssert_lacksB Tryz.underlying141 (by kernel_rfl) (by kernel_rfl) v _ w
  a32 := fun v w => run_typeAssert_lacksB Tryz.underlying144 (by kernel_rfl) (by kernel_rfl) v _ w
  au := fun v w => run_typeAssert_hasB Tryz.underlying74 (by kernel_rfl) v _ w
theorem tf_c3 : Tf 392 true true false false false false true where
  a1 := fun v w => run_typeAssert_hasB Tryz.underlying129 (by kernel_rfl) v _ w
  a2 := fun v w => run_typeAssert_hasB Tryz.underlying132 (by kernel_rfl) v _ w
  a4 := fun v w => run_typeAssert_lacksB Tryz.underlying135 (by kernel_rfl) (by kernel_rfl) v _ w
  a8 := fun v w => run_typeAssert_lacksB Tryz.underlying138 (by kernel_rfl) (by kernel_rfl) v _ w
  a16 := fun v w => run_typeAssert_lacksB Tryz.underlying141 (by kernel_rfl) (by kernel_rfl) v _ w
  a32 := fun v w => run_typeAssert_lacksB Tryz.underlying144 (by kernel_rfl) (by kernel_rfl) v _ w
  au := fun v w => run_typeAssert_hasB Tryz.underlying74 (by kernel_rfl) v _ w
theorem tf_c4 : Tf 395 false false true false false false true where
  a1 := fun v w => run_typeAssert_lacksB Tryz.underlying129 (by kernel_rfl) (by kernel_rfl) v _ w
  a2 := fun v w => run_typeAssert_lacksB Tryz.underlying132 (by kernel_rfl) (by kernel_rfl) v _ w
  a4 := fun v w => run_typeAssert_hasB Tryz.underlying135 (by kernel_rfl) v _ w
  a8 := fun v w => run_typeAssert_lacksB Tryz.underlying138 (by kernel_rfl) (by kernel_rfl) v _ w
  a16 := fun v w => run_typeAssert_lacksB Tryz.underlying141 (by kernel_rfl) (by kernel_rfl) v _ w
  a32 := fun v w => run_typeAssert_lacksB Tryz.underlying144 (by kernel_rfl) (by kernel_rfl) v _ w
  au := fun v w => run_typeAssert_hasB Tryz.underlying74 (by kernel_rfl) v _ w
theorem tf_c5 : Tf 398 true false true false false false true where
  a1 := fun v w => run_typeAssert_hasB Tryz.underlying129 (by kernel_rfl) v _ w
  a2 := fun v w => run_typeAssert_lacksB Tryz.underlying132 (by kernel_rfl) (by kernel_rfl) v _ w
  a4 := fun v w => run_typeAssert_hasB Tryz.underlying135 (by kernel_rfl) v _ w
  a8 := fun v w => run_typeAssert_lacksB Tryz.underlying138 (by kernel_rfl) (by kernel_rfl) v _ w
  a16 := fun v w => run_typeAssert_lacksB Tryz.underlying141 (by kernel_rfl) (by kernel_rfl) v _ w
  a32 := fun v w => run_typeAssert_lacksB Tryz.underlying144 (by kernel_rfl) (by kernel_rfl) v _ w
  au := fun v w => run_typeAssert_hasB Tryz.underlying74 (by kernel_rfl) v _ w
theorem tf_c6 : Tf 401 false true true false false false true where
  a1 := fun v w => run_typeAssert_lacksB Tryz.underlying129 (by kernel_rfl) (by kernel_rfl) v _ w
  a2 := fun v w => run_typeAssert_hasB Tryz.underlying132 (by kernel_rfl) v _ w
  a4 := fun v w => run_typeAssert_hasB Tryz.underlying135 (by kernel_rfl) v _ w
  a8 := fun v w => run_typeAssert_lacksB Tryz.underlying138 (by kernel_rfl) (by kernel_rfl) v _ w
  a16 := fun v w => run_typeAssert_lacksB Tryz.underlying141 (by kernel_rfl) (by kernel_rfl) v _ w
  a32 := fun v w => run_typeAssert_lacksB Tryz.underlying144 (by kernel_rfl) (by kernel_rfl) v _ w
  au := fun v w => run_typeAssert_hasB Tryz.underlying74 (by kernel_rfl) v _ w
theorem tf_c7 : Tf 404 true true true false false false true where
  a1 := fun v w => run_typeAssert_hasB Tryz.underlying129 (by kernel_rfl) v _ w
  a2 := fun v w => run_typeAssert_hasB Tryz.underlying132 (by kernel_rfl) v _ w
  a4 := fun v w => run_typeAssert_hasB Tryz.underlying135 (by kernel_rfl) v _ w
  a8 := fun v w => run_typeAssert_lacksB Tryz.underlying138 (by kernel_rfl) (by kernel_rfl) v _ w
  a16 := fun v w => run_typeAssert_lacksB Tryz.underlying141 (by kernel_rfl) (by kernel_rfl) v _ w
  a32 := fun v w => run_typeAssert_lacksB Tryz.underlying144 (by kernel_rfl) (by kernel_rfl) v _ w
  au := fun v w => run_typeAssert_hasB Tryz.underlying74 (by kernel_rfl) v _ w
theorem tf_c8 : Tf 407 false false false true false false true where
  a1 := fun v w => run_typeAssert_lacksB Tryz.underlying129 (by kernel_rfl) (by kernel_rfl) v _ w
  a2 := fun v w => run_typeAssert_lacksB Tryz.underlying132 (by kernel_rfl) (by kernel_rfl) v _ w
  a4 := fun v w => run_typeAssert_lacksB Tryz.underlying135 (by kernel_rfl) (by kernel_rfl) v _ w
  a8 := fun v w => run_typeAssert_hasB Tryz.underlying138 (by kernel_rfl) v _ w
  a16 := fun v w => run_typeAssert_lacksB Tryz.underlying141 (by kernel_rfl) (by kernel_rfl) v _ w
  a32 := fun v w => run_typeAssert_lacksB Tryz.underlying144 (by kernel_rfl) (by kernel_rfl) v _ w
  au := fun v w => run_typeAssert_hasB Tryz.underlying74 (by kernel_rfl) v _ w
theorem tf_c9 : Tf 410 true false false true false false true where
  a1 := fun v w => run_typeAssert_hasB Tryz.underlying129 (by kernel_rfl) v _ w
  a2 := fun v w => run_typeAssert_lacksB Tryz.underlying132 (by kernel_rfl) (by kernel_rfl) v _ w
  a4 := fun v w => run_typeAssert_lacksB Tryz.underlying135 (by kernel_rfl) (by kernel_rfl) v _ w
  a8 := fun v w => run_typeAssert_hasB Tryz.underlying138 (by kernel_rfl) v _ w
  a16 := fun v w => run_typeAssert_lacksB Tryz.underlying141 (by kernel_rfl) (by kernel_rfl) v _ w
  a32 := fun v w => run_typeAssert_lacksB Tryz.underlying144 (by kernel_rfl) (by kernel_rfl) v _ w
  au := fun v w => run_typeAssert_hasB Tryz.underlying74 (by kernel_rfl) v _ w
theorem tf_c10 : Tf 413 false true false true false false true where
  a1 := fun v w => run_typeAssert_lacksB Tryz.underlying129 (by kernel_rfl) (by kernel_rfl) v _ w
  a2 := fun v w => run_typeAssert_hasB Tryz.underlying132 (by kernel_rfl) v _ w
  a4 := fun v w => run_typeAssert_lacksB Tryz.underlying135 (by kernel_rfl) (by kernel_rfl) v _ w
  a8 := fun v w => run_typeAssert_hasB Tryz.underlying138 (by kernel_rfl) v _ w
  a16 := fun v w => run_typeAssert_lacksB Tryz.underlying141 (by kernel_rfl) (by kernel_rfl) v _ w
  a32 := fun v w => run_typeAssert_lacksB Tryz.underlying144 (by kernel_rfl) (by kernel_rfl) v _ w
  au := fun v w => run_typeAssert_hasB Tryz.underlying74 (by kernel_rfl) v _ w
theorem tf_c11 : Tf 416 true true false true false false true where
  a1 := fun v w => run_typeAssert_hasB Tryz.underlying129 (by kernel_rfl) v _ w
  a2 := fun v w => run_typeAssert_hasB Tryz.underlying132 (by kernel_rfl) v _ w
  a4 := fun v w => run_typeAssert_lacksB Tryz.underlying135 (by kernel_rfl) (by kernel_rfl) v _ w
  a8 := fun v w => run_typeAssert_hasB Tryz.underlying138 (by kernel_rfl) v _ w
  a16 := fun v w => run_typeAssert_lacksB Tryz.underlying141 (by kernel_rfl) (by kernel_rfl) v _ w
  a32 := fun v w => run_typeAssert_lacksB Tryz.underlying144 (by kernel_rfl) (by kernel_rfl) v _ w
  au := fun v w => run_typeAssert_hasB Tryz.underlying74 (by kernel_rfl) v _ w
theorem tf_c12 : Tf 419 false false true true false false true where
  a1 := fun v w => run_typeAssert_lacksB Tryz.underlying129 (by kernel_rfl) (by kernel_rfl) v _ w
  a2 := fun v w => run_typeAssert_lacksB Tryz.underlying132 (by kernel_rfl) (by kernel_rfl) v _ w
  a4 := fun v w => run_typeAssert_hasB Tryz.underlying135 (by kernel_rfl) v _ w
  a8 := fun v w => run_typeAssert_hasB Tryz.underlying138 (by kernel_rfl) v _ w
  a16 := fun v w => run_typeAssert_lacksB Tryz.underlying141 (by kernel_rfl) (by kernel_rfl) v _ w
  a32 := fun v w => run_typeAssert_lacksB Tryz.underlying144 (by kernel_rfl) (by kernel_rfl) v _ w
  au := fun v w => run_typeAssert_hasB Tryz.underlying74 (by kernel_rfl) v _ w
theorem tf_c13 : Tf 422 true false true true false false true where
  a1 := fun v w => run_typeAssert_hasB Tryz.underlying129 (by kernel_rfl) v _ w
  a2 := fun v w => run_typeAssert_lacksB Tryz.underlying132 (by kernel_rfl) (by kernel_rfl) v _ w
  a4 := fun v w => run_typeAssert_hasB Tryz.underlying135 (by kernel_rfl) v _ w
  a8 := fun v w => run_typeAssert_hasB Tryz.underlying138 (by kernel_rfl) v _ w
  a16 := fun v w => run_typeAssert_lacksB Tryz.underlying141 (by kernel_rfl) (by kernel_rfl) v _ w
  a32 := fun v w => run_typeAssert_lacksB Tryz.underlying144 (by kernel_rfl) (by kernel_rfl) v _ w
  au := fun v w => run_typeAssert_hasB Tryz.underlying74 (by kernel_rfl) v _ w
theorem tf_c14 : Tf 425 false true true true false false true where
  a1 := fun v w => run_typeAssert_lacksB Tryz.underlying129 (by kernel_rfl) (by kernel_rfl) v _ w
  a2 := fun v w => run_typeAssert_hasB Tryz.underlying132 (by kernel_rfl) v _ w
  a4 := fun v w => run_typeAssert_hasB Tryz.underlying135 (by kernel_rfl) v _ w
  a8 := fun v w => run_typeAssert_hasB Tryz.underlying138 (by kernel_rfl) v _ w
  a16 := fun v w => run_typeAssert_lacksB Tryz.underlying141 (by kernel_rfl) (by kernel_rfl) v _ w
  a32 := fun v w => run_typeAssert_lacksB Tryz.underlying144 (by kernel_rfl) (by kernel_rfl) v _ w
  au := fun v w => run_typeAssert_hasB Tryz.underlying74 (by kernel_rfl) v _ w
theorem tf_c15 : Tf 428 true true true true false false true where
  a1 := fun v w => run_typeAssert_hasB Tryz.underlying129 (by kernel_rfl) v _ w
  a2 := fun v w => run_typeAssert_hasB Tryz.underlying132 (by kernel_rfl) v _ w
  a4 := fun v w => run_typeAssert_hasB Tryz.underlying135 (by kernel_rfl) v _ w
  a8 := fun v w => run_typeAssert_hasB Tryz.underlying138 (by kernel_rfl) v _ w
  a16 := fun v w => run_typeAssert_lacksB Tryz.underlying141 (by kernel_rfl) (by kernel_rfl) v _ w
  a32 := fun v w => run_typeAssert_lacksB Tryz.underlying144 (by kernel_rfl) (by kernel_rfl) v _ w
  au := fun v w => run_typeAssert_hasB Tryz.underlying74 (by kernel_rfl) v _ w
theorem tf_c16 : Tf 238 false false false false true false true where
  a1 := fun v w => run_typeAssert_lacksB Tryz.underlying129 (by kernel_rfl) (by kernel_rfl) v _ w
  a2 := fun v w => run_typeAssert_lacksB Tryz.underlying132 (by kernel_rfl) (by kernel_rfl) v _ w
  a4 := fun v w => run_typeAssert_lacksB Tryz.underlying135 (by kernel_rfl) (by kernel_rfl) v _ w
  a8 := fun v w => run_typeAssert_lacksB Tryz.underlying138 (by kernel_rfl) (by kernel_rfl) v _ w
  a16 := fun v w => run_typeAssert_hasB Tryz.underlying141 (by kernel_rfl) v _ w
  a32 := fun v w => run_typeAssert_lacksB Tryz.underlying144 (by kernel_rfl) (by kernel_rfl) v _ w
  au := fun v w => run_typeAssert_hasB Tryz.underlying74 (by kernel_rfl) v _ w
theorem tf_c17 : Tf 241 true false false false true false true where
  a1 := fun v w => run_typeAssert_hasB Tryz.underlying129 (by kernel_rfl) v _ w
  a2 := fun v w => run_typeAssert_lacksB Tryz.underlying132 (by kernel_rfl) (by kernel_rfl) v _ w
  a4 := fun v w => run_typeAssert_lacksB Tryz.underlying135 (by kernel_rfl) (by kernel_rfl) v _ w
  a8 := fun v w => run_typeAssert_lacksB Tryz.underlying138 (by kernel_rfl) (by kernel_rfl) v _ w
  a16 := fun v w => run_typeAssert_hasB Tryz.underlying141 (by kernel_rfl) v _ w
  a32 := fun v w => run_typeAssert_lacksB Tryz.underlying144 (by kernel_rfl) (by kernel_rfl) v _ w
  au := fun v w => run_typeAssert_hasB Tryz.underlying74 (by kernel_rfl) v _ w
theorem tf_c18 : Tf 244 false true false false true false true where
  a1 := fun v w => run_typeAssert_lacksB Tryz.underlying129 (by kernel_rfl) (by kernel_rfl) v _ w
  a2 := fun v w => run_typeAssert_hasB Tryz.underlying132 (by kernel_rfl) v _ w
  a4 := fun v w => run_typeAssert_lacksB Tryz.underlying135 (by kernel_rfl) (by kernel_rfl) v _ w
  a8 := fun v w => run_typeAssert_lacksB Tryz.underlying138 (by kernel_rfl) (by kernel_rfl) v _ w
  a16 := fun v w => run_typeAssert_hasB Tryz.underlying141 (by kernel_rfl) v _ w
  a32 := fun v w => run_typeAssert_lacksB Tryz.underlying144 (by kernel_rfl) (by kernel_rfl) v _ w
  au := fun v w => run_typeAssert_hasB Tryz.underlying74 (by kernel_rfl) v _ w
theorem tf_c19 : Tf 247 true true false false true false true where
  a1 := fun v w => run_typeAssert_hasB Tryz.underlying129 (by kernel_rfl) v _ w
  a2 := fun v w => run_typeAssert_hasB Tryz.underlying132 (by kernel_rfl) v _ w
  a4 := fun v w => run_typeAssert_lacksB Tryz.underlying135 (by kernel_rfl) (by kernel_rfl) v _ w
  a8 := fun v w => run_typeAssert_lacksB Tryz.underlying138 (by kernel_rfl) (by kernel_rfl) v _ w
  a16 := fun v w => run_typeAssert_hasB Tryz.underlying141 (by kernel_rfl) v _ w
  a32 := fun v w => run_typeAssert_lacksB Tryz.underlying144 (by kernel_rfl) (by kernel_rfl) v _ w
  au := fun v w => run_typeAssert_hasB Tryz.underlying74 (by kernel_rfl) v _ w
theorem tf_c20 : Tf 250 false false true false true false true where
  a1 := fun v w => run_typeAssert_lacksB Tryz.underlying129 (by kernel_rfl) (by kernel_rfl) v _ w
  a2 := fun v w => run_typeAssert_lacksB Tryz.underlying132 (by kernel_rfl) (by kernel_rfl) v _ w
  a4 := fun v w => run_typeAssert_hasB Tryz.underlying135 (by kernel_rfl) v _ w
  a8 := fun v w => run_typeAssert_lacksB Tryz.underlying138 (by kernel_rfl) (by kernel_rfl) v _ w
  a16 := fun v w => run_typeAssert_hasB Tryz.underlying141 (by kernel_rfl) v _ w
  a32 := fun v w => run_typeAssert_lacksB Tryz.underlying144 (by kernel_rfl) (by kernel_rfl) v _ w
  au := fun v w => run_typeAssert_hasB Tryz.underlying74 (by kernel_rfl) v _ w
theorem tf_c21 : Tf 253 true false true false true false true where
  a1 := fun v w => run_typeAssert_hasB Tryz.underlying129 (by kernel_rfl) v _ w
  a2 := fun v w => run_typeAssert_lacksB Tryz.underlying132 (by kernel_rfl) (by kernel_rfl) v _ w
  a4 := fun v w => run_typeAssert_hasB Tryz.underlying135 (by kernel_rfl) v _ w
  a8 := fun v w => run_typeAssert_lacksB Tryz.underlying138 (by kernel_rfl) (by kernel_rfl) v _ w
  a16 := fun v w => run_typeAssert_hasB Tryz.underlying141 (by kernel_rfl) v _ w
  a32 := fun v w => run_typeAssert_lacksB Tryz.underlying144 (by kernel_rfl) (by kernel_rfl) v _ w
  au := fun v w => run_typeAssert_hasB Tryz.underlying74 (by kernel_rfl) v _ w
theorem tf_c22 : Tf 256 false true true false true false true where
  a1 := fun v w => run_typeAssert_lacksB Tryz.underlying129 (by kernel_rfl) (by kernel_rfl) v _ w
  a2 := fun v w => run_typeAssert_hasB Tryz.underlying132 (by kernel_rfl) v _ w
  a4 := fun v w => run_typeAssert_hasB Tryz.underlying135 (by kernel_rfl) v _ w
  a8 := fun v w => run_typeAssert_lacksB Tryz.underlying138 (by kernel_rfl) (by kernel_rfl) v _ w
  a16 := fun v w => run_typeAssert_hasB Tryz.underlying141 (by kernel_rfl) v _ w
  a32 := fun v w => run_typeAssert_lacksB Tryz.underlying144 (by kernel_rfl) (by kernel_rfl) v _ w
  au := fun v w => run_typeAssert_hasB Tryz.underlying74 (by kernel_rfl) v _ w
theorem tf_c23 : Tf 259 true true true false true false true where
  a1 := fun v w => run_typeAssert_hasB Tryz.underlying129 (by kernel_rfl) v _ w
  a2 := fun v w => run_typeAssert_hasB Tryz.underlying132 (by kernel_rfl) v _ w
  a4 := fun v w => run_typeAssert_hasB Tryz.underlying135 (by kernel_rfl) v _ w
  a8 := fun v w => run_typeAssert_lacksB Tryz.underlying138 (by kernel_rfl) (by kernel_rfl) v _ w
  a16 := fun v w => run_typeAssert_hasB Tryz.underlying141 (by kernel_rfl) v _ w
  a32 := fun v w => run_typeAssert_lacksB Tryz.underlying144 (by kernel_rfl) (by kernel_rfl) v _ w
  au := fun v w => run_typeAssert_hasB Tryz.underlying74 (by kernel_rfl) v _ w
theorem tf_c24 : Tf 262 false false false true true false true where
  a1 := fun v w => run_typeAssert_lacksB Tryz.underlying129 (by kernel_rfl) (by kernel_rfl) v _ w
  a2 := fun v w => run_typeAssert_lacksB Tryz.underlying132 (by kernel_rfl) (by kernel_rfl) v _ w
  a4 := fun v w => run_typeAssert_lacksB Tryz.underlying135 (by kernel_rfl) (by kernel_rfl) v _ w
  a8 := fun v w => run_typeAssert_hasB Tryz.underlying138 (by kernel_rfl) v _ w
  a16 := fun v w => run_typeAssert_hasB Tryz.underlying141 (by kernel_rfl) v _ w
  a32 := fun v w => run_typeAssert_lacksB Tryz.underlying144 (by kernel_rfl) (by kernel_rfl) v _ w
  au := fun v w => run_typeAssert_hasB Tryz.underlying74 (by kernel_rfl) v _ w
theorem tf_c25 : Tf 265 true false false true true false true where
  a1 := fun v w => run_typeAssert_hasB Tryz.underlying129 (by kernel_rfl) v _ w
  a2 := fun v w => run_typeAssert_lacksB Tryz.underlying132 (by kernel_rfl) (by kernel_rfl) v _ w
  a4 := fun v w => run_typeAssert_lacksB Tryz.underlying135 (by kernel_rfl) (by kernel_rfl) v _ w
  a8 := fun v w => run_typeAssert_hasB Tryz.underlying138 (by kernel_rfl) v _ w
  a16 := fun v w => run_typeAssert_hasB Tryz.underlying141 (by kernel_rfl) v _ w
  a32 := fun v w => run_typeAssert_lacksB Tryz.underlying144 (by kernel_rfl) (by kernel_rfl) v _ w
  au := fun v w => run_typeAssert_hasB Tryz.underlying74 (by kernel_rfl) v _ w
theorem tf_c26 : Tf 268 false true false true true false true where
  a1 := fun v w => run_typeAssert_lacksB Tryz.underlying129 (by kernel_rfl) (by kernel_rfl) v _ w
  a2 := fun v w => run_typeAssert_hasB Tryz.underlying132 (by kernel_rfl) v _ w
  a4 := fun v w => run_typeAssert_lacksB Tryz.underlying135 (by kernel_rfl) (by kernel_rfl) v _ w
  a8 := fun v w => run_typeAssert_hasB Tryz.underlying138 (by kernel_rfl) v _ w
  a16 := fun v w => run_typeAssert_hasB Tryz.underlying141 (by kernel_rfl) v _ w
  a32 := fun v w => run_typeAssert_lacksB Tryz.underlying144 (by kernel_rfl) (by kernel_rfl) v _ w
  au := fun v w => run_typeAssert_hasB Tryz.underlying74 (by kernel_rfl) v _ w
theorem tf_c27 : Tf 271 true true false true true false true where
  a1 := fun v w => run_typeAssert_hasB Tryz.underlying129 (by kernel_rfl) v _ w
  a2 := fun v w => run_typeAssert_hasB Tryz.underlying132 (by kernel_rfl) v _ w
  a4 := fun v w => run_typeAssert_lacksB Tryz.underlying135 (by kernel_rfl) (by kernel_rfl) v _ w
  a8 := fun v w => run_typeAssert_hasB Tryz.underlying138 (by kernel_rfl) v _ w
  a16 := fun v w => run_typeAssert_hasB Tryz.underlying141 (by kernel_rfl) v _ w
  a32 := fun v w => run_typeAssert_lacksB Tryz.underlying144 (by kernel_rfl) (by kernel_rfl) v _ w
  au := fun v w => run_typeAssert_hasB Tryz.underlying74 (by kernel_rfl) v _ w
theorem tf_c28 : Tf 274 false false true true true false true where
  a1 := fun v w => run_typeAssert_lacksB Tryz.underlying129 (by kernel_rfl) (by kernel_rfl) v _ w
  a2 := fun v w => run_typeAssert_lacksB Tryz.underlying132 (by kernel_rfl) (by kernel_rfl) v _ w
  a4 := fun v w => run_typeAssert_hasB Tryz.underlying135 (by kernel_rfl) v _ w
  a8 := fun v w => run_typeAssert_hasB Tryz.underlying138 (by kernel_rfl) v _ w
  a16 := fun v w => run_typeAssert_hasB Tryz.underlying141 (by kernel_rfl) v _ w
  a32 := fun v w => run_typeAssert_lacksB Tryz.underlying144 (by kernel_rfl) (by kernel_rfl) v _ w
  au := fun v w => run_typeAssert_hasB Tryz.underlying74 (by kernel_rfl) v _ w
theorem tf_c29 : Tf 277 true false true true true false true where
  a1 := fun v w => run_typeAssert_hasB Tryz.underlying129 (by kernel_rfl) v _ w
  a2 := fun v w => run_typeAssert_lacksB Tryz.underlying132 (by kernel_rfl) (by kernel_rfl) v _ w
  a4 := fun v w => run_typeAssert_hasB Tryz.underlying135 (by kernel_rfl) v _ w
  a8 := fun v w => run_typeAssert_hasB Tryz.underlying138 (by kernel_rfl) v _ w
  a16 := fun v w => run_typeAssert_hasB Tryz.underlying141 (by kernel_rfl) v _ w
  a32 := fun v w => run_typeAssert_lacksB Tryz.underlying144 (by kernel_rfl) (by kernel_rfl) v _ w
  au := fun v w => run_typeAssert_hasB Tryz.underlying74 (by kernel_rfl) v _ w
theorem tf_c30 : Tf 280 false true true true true false true where
  a1 := fun v w => run_typeAssert_lacksB Tryz.underlying129 (by kernel_rfl) (by kernel_rfl) v _ w
  a2 := fun v w => run_typeAssert_hasB Tryz.underlying132 (by kernel_rfl) v _ w
  a4 := fun v w => run_typeAssert_hasB Tryz.underlying135 (by kernel_rfl) v _ w
  a8 := fun v w => run_typeAssert_hasB Tryz.underlying138 (by kernel_rfl) v _ w
  a16 := fun v w => run_typeAssert_hasB Tryz.underlying141 (by kernel_rfl) v _ w
  a32 := fun v w => run_typeAssert_lacksB Tryz.underlying144 (by kernel_rfl) (by kernel_rfl) v _ w
  au := fun v w => run_typeAssert_hasB Tryz.underlying74 (by kernel_rfl) v _ w
theorem tf_c31 : Tf 283 true true true true true false true where
  a1 := fun v w => run_typeAssert_hasB Tryz.underlying129 (by kernel_rfl) v _ w
  a2 := fun v w => run_typeAssert_hasB Tryz.underlying132 (by kernel_rfl) v _ w
  a4 := fun v w => run_typeAssert_hasB Tryz.underlying135 (by kernel_rfl) v _ w
  a8 := fun v w => run_typeAssert_hasB Tryz.underlying138 (by kernel_rfl) v _ w
  a16 := fun v w => run_typeAssert_hasB Tryz.underlying141 (by kernel_rfl) v _ w
  a32 := fun v w => run_typeAssert_lacksB Tryz.underlying144 (by kernel_rfl) (by kernel_rfl) v _ w
  au := fun v w => run_typeAssert_hasB Tryz.underlying74 (by kernel_rfl) v _ w
theorem tf_c32 : Tf 287 false false false false false true true where
  a1 := fun v w => run_typeAssert_lacksB Tryz.underlying129 (by kernel_rfl) (by kernel_rfl) v _ w
  a2 := fun v w => run_typeAssert_lacksB Tryz.underlying132 (by kernel_rfl) (by kernel_rfl) v _ w
  a4 := fun v w => run_typeAssert_lacksB Tryz.underlying135 (by kernel_rfl) (by kernel_rfl) v _ w
  a8 := fun v w => run_typeAssert_lacksB Tryz.underlying138 (by kernel_rfl) (by kernel_rfl) v _ w
  a16 := fun v w => run_typeAssert_lacksB Tryz.underlying141 (by kernel_rfl) (by kernel_rfl) v _ w
  a32 := fun v w => run_typeAssert_hasB Tryz.underlying144 (by kernel_rfl) v _ w
  au := fun v w => run_typeAssert_hasB Tryz.underlying74 (by kernel_rfl) v _ w
theorem tf_c33 : Tf 290 true false false false false true true where
  a1 := fun v w => run_typeAssert_hasB Tryz.underlying129 (by kernel_rfl) v _ w
  a2 := fun v w => run_typeAssert_lacksB Tryz.underlying132 (by kernel_rfl) (by kernel_rfl) v _ w
  a4 := fun v w => run_typeAssert_lacksB Tryz.underlying135 (by kernel_rfl) (by kernel_rfl) v _ w
  a8 := fun v w => run_typeAssert_lacksB Tryz.underlying138 (by kernel_rfl) (by kernel_rfl) v _ w
  a16 := fun v w => run_typeAssert_lacksB Tryz.underlying141 (by kernel_rfl) (by kernel_rfl) v _ w
  a32 := fun v w => run_typeAssert_hasB Tryz.underlying144 (by kernel_rfl) v _ w
  au := fun v w => run_typeAssert_hasB Tryz.underlying74 (by kernel_rfl) v _ w
theorem tf_c34 : Tf 293 false true false false false true true where
  a1 := fun v w => run_typeAssert_lacksB Tryz.underlying129 (by kernel_rfl) (by kernel_rfl) v _ w
  a2 := fun v w => run_typeAssert_hasB Tryz.underlying132 (by kernel_rfl) v _ w
  a4 := fun v w => run_typeAssert_lacksB Tryz.underlying135 (by kernel_rfl) (by kernel_rfl) v _ w
  a8 := fun v w => run_typeAssert_lacksB Tryz.underlying138 (by kernel_rfl) (by kernel_rfl) v _ w
  a16 := fun v w => run_typeAssert_lacksB Tryz.underlying141 (by kernel_rfl) (by kernel_rfl) v _ w
  a32 := fun v w => run_typeAssert_hasB Tryz.underlying144 (by kernel_rfl) v _ w
  au := fun v w => run_typeAssert_hasB Tryz.underlying74 (by kernel_rfl) v _ w
theorem tf_c35 : Tf 296 true true false false false true true where
  a1 := fun v w => run_typeAssert_hasB Tryz.underlying129 (by kernel_rfl) v _ w
  a2 := fun v w => run_typeAssert_hasB Tryz.underlying132 (by kernel_rfl) v _ w
  a4 := fun v w => run_typeAssert_lacksB Tryz.underlying135 (by kernel_rfl) (by kernel_rfl) v _ w
  a8 := fun v w => run_typeAssert_lacksB Tryz.underlying138 (by kernel_rfl) (by kernel_rfl) v _ w
  a16 := fun v w => run_typeAssert_lacksB Tryz.underlying141 (by kernel_rfl) (by kernel_rfl) v _ w
  a32 := fun v w => run_typeAssert_hasB Tryz.underlying144 (by kernel_rfl) v _ w
  au := fun v w => run_typeAssert_hasB Tryz.underlying74 (by kernel_rfl) v _ w
theorem tf_c36 : Tf 299 false false true false false true true where
  a1 := fun v w => run_typeAssert_lacksB Tryz.underlying129 (by kernel_rfl) (by kernel_rfl) v _ w
  a2 := fun v w => run_typeAssert_lacksB Tryz.underlying132 (by kernel_rfl) (by kernel_rfl) v _ w
  a4 := fun v w => run_typeAssert_hasB Tryz.underlying135 (by kernel_rfl) v _ w
  a8 := fun v w => run_typeAssert_lacksB Tryz.underlying138 (by kernel_rfl) (by kernel_rfl) v _ w
  a16 := fun v w => run_typeAssert_lacksB Tryz.underlying141 (by kernel_rfl) (by kernel_rfl) v _ w
  a32 := fun v w => run_typeAssert_hasB Tryz.underlying144 (by kernel_rfl) v _ w
  au := fun v w => run_typeAssert_hasB Tryz.underlying74 (by kernel_rfl) v _ w
theorem tf_c37 : Tf 302 true false true false false true true where
  a1 := fun v w => run_typeAssert_hasB Tryz.underlying129 (by kernel_rfl) v _ w
  a2 := fun v w => run_typeAssert_lacksB Tryz.underlying132 (by kernel_rfl) (by kernel_rfl) v _ w
  a4 := fun v w => run_typeAssert_hasB Tryz.underlying135 (by kernel_rfl) v _ w
  a8 := fun v w => run_typeAssert_lacksB Tryz.underlying138 (by kernel_rfl) (by kernel_rfl) v _ w
  a16 := fun v w => run_typeAssert_lacksB Tryz.underlying141 (by kernel_rfl) (by kernel_rfl) v _ w
  a32 := fun v w => run_typeAssert_hasB Tryz.underlying144 (by kernel_rfl) v _ w
  au := fun v w => run_typeAssert_hasB Tryz.underlying74 (by kernel_rfl) v _ w
theorem tf_c38 : Tf 305 false true true false false true true where
  a1 := fun v w => run_typeAssert_lacksB Tryz.underlying129 (by kernel_rfl) (by kernel_rfl) v _ w
  a2 := fun v w => run_typeAssert_hasB Tryz.underlying132 (by kernel_rfl) v _ w
  a4 := fun v w => run_typeAssert_hasB Tryz.underlying135 (by kernel_rfl) v _ w
  a8 := fun v w => run_typeAssert_lacksB Tryz.underlying138 (by kernel_rfl) (by kernel_rfl) v _ w
  a16 := fun v w => run_typeAssert_lacksB Tryz.underlying141 (by kernel_rfl) (by kernel_rfl) v _ w
  a32 := fun v w => run_typeAssert_hasB Tryz.underlying144 (by kernel_rfl) v _ w
  au := fun v w => run_typeAssert_hasB Tryz.underlying74 (by kernel_rfl) v _ w
theorem tf_c39 : Tf 308 true true true false false true true where
  a1 := fun v w => run_typeAssert_hasB Tryz.underlying129 (by kernel_rfl) v _ w
  a2 := fun v w => run_typeAssert_hasB Tryz.underlying132 (by kernel_rfl) v _ w
  a4 := fun v w => run_typeAssert_hasB Tryz.underlying135 (by kernel_rfl) v _ w
  a8 := fun v w => run_typeAssert_lacksB Tryz.underlying138 (by kernel_rfl) (by kernel_rfl) v _ w
  a16 := fun v w => run_typeAssert_lacksB Tryz.underlying141 (by kernel_rfl) (by kernel_rfl) v _ w
  a32 := fun v w => run_typeAssert_hasB Tryz.underlying144 (by kernel_rfl) v _ w
  au := fun v w => run_typeAssert_hasB Tryz.underlying74 (by kernel_rfl) v _ w
theorem tf_c40 : Tf 311 false false false true false true true where
  a1 := fun v w => run_typeAssert_lacksB Tryz.underlying129 (by kernel_rfl) (by kernel_rfl) v _ w
  a2 := fun v w => run_typeAssert_lacksB Tryz.underlying132 (by kernel_rfl) (by kernel_rfl) v _ w
  a4 := fun v w => run_typeAssert_lacksB Tryz.underlying135 (by kernel_rfl) (by kernel_rfl) v _ w
  a8 := fun v w => run_typeAssert_hasB Tryz.underlying138 (by kernel_rfl) v _ w
  a16 := fun v w => run_typeAssert_lacksB Tryz.underlying141 (by kernel_rfl) (by kernel_rfl) v _ w
  a32 := fun v w => run_typeAssert_hasB Tryz.underlying144 (by kernel_rfl) v _ w
  au := fun v w => run_typeAssert_hasB Tryz.underlying74 (by kernel_rfl) v _ w
theorem tf_c41 : Tf 314 true false false true false true true where
  a1 := fun v w => run_typeAssert_hasB Tryz.underlying129 (by kernel_rfl) v _ w
  a2 := fun v w => run_typeAssert_lacksB Tryz.underlying132 (by kernel_rfl) (by kernel_rfl) v _ w
  a4 := fun v w => run_typeAssert_lacksB Tryz.underlying135 (by kernel_rfl) (by kernel_rfl) v _ w
  a8 := fun v w => run_typeAssert_hasB Tryz.underlying138 (by kernel_rfl) v _ w
  a16 := fun v w => run_typeAssert_lacksB Tryz.underlying141 (by kernel_rfl) (by kernel_rfl) v _ w
  a32 := fun v w => run_typeAssert_hasB Tryz.underlying144 (by kernel_rfl) v _ w
  au := fun v w => run_typeAssert_hasB Tryz.underlying74 (by kernel_rfl) v _ w
theorem tf_c42 : Tf 317 false true false true false true true where
  a1 := fun v w => run_typeAssert_lacksB Tryz.underlying129 (by kernel_rfl) (by kernel_rfl) v _ w
  a2 := fun v w => run_typeAssert_hasB Tryz.underlying132 (by kernel_rfl) v _ w
  a4 := fun v w => run_typeAssert_lacksB Tryz.underlying135 (by kernel_rfl) (by kernel_rfl) v _ w
  a8 := fun v w => run_typeAssert_hasB Tryz.underlying138 (by kernel_rfl) v _ w
  a16 := fun v w => run_typeAssert_lacksB Tryz.underlying141 (by kernel_rfl) (by kernel_rfl) v _ w
  a32 := fun v w => run_typeAssert_hasB Tryz.underlying144 (by kernel_rfl) v _ w
  au := fun v w => run_typeAssert_hasB Tryz.underlying74 (by kernel_rfl) v _ w
theorem tf_c43 : Tf 320 true true false true false true true where
  a1 := fun v w => run_typeAssert_hasB Tryz.underlying129 (by kernel_rfl) v _ w
  a2 := fun v w => run_typeAssert_hasB Tryz.underlying132 (by kernel_rfl) v _ w
  a4 := fun v w => run_typeAssert_lacksB Tryz.underlying135 (by kernel_rfl) (by kernel_rfl) v _ w
  a8 := fun v w => run_typeAssert_hasB Tryz.underlying138 (by kernel_rfl) v _ w
  a16 := fun v w => run_typeAssert_lacksB Tryz.underlying141 (by kernel_rfl) (by kernel_rfl) v _ w
  a32 := fun v w => run_typeAssert_hasB Tryz.underlying144 (by kernel_rfl) v _ w
  au := fun v w => run_typeAssert_hasB Tryz.underlying74 (by kernel_rfl) v _ w
theorem tf_c44 : Tf 323 false false true true false true true where
  a1 := fun v w => run_typeAssert_lacksB Tryz.underlying129 (by kernel_rfl) (by kernel_rfl) v _ w
  a2 := fun v w => run_typeAssert_lacksB Tryz.underlying132 (by kernel_rfl) (by kernel_rfl) v _ w
  a4 := fun v w => run_typeAssert_hasB Tryz.underlying135 (by kernel_rfl) v _ w
  a8 := fun v w => run_typeAssert_hasB Tryz.underlying138 (by kernel_rfl) v _ w
  a16 := fun v w => run_typeAssert_lacksB Tryz.underlying141 (by kernel_rfl) (by kernel_rfl) v _ w
  a32 := fun v w => run_typeAssert_hasB Tryz.underlying144 (by kernel_rfl) v _ w
  au := fun v w => run_typeAssert_hasB Tryz.underlying74 (by kernel_rfl) v _ w
theorem tf_c45 : Tf 326 true false true true false true true where
  a1 := fun v w => run_typeAssert_hasB Tryz.underlying129 (by kernel_rfl) v _ w
  a2 := fun v w => run_typeAssert_lacksB Tryz.underlying132 (by kernel_rfl) (by kernel_rfl) v _ w
  a4 := fun v w => run_typeAssert_hasB Tryz.underlying135 (by kernel_rfl) v _ w
  a8 := fun v w => run_typeAssert_hasB Tryz.underlying138 (by kernel_rfl) v _ w
  a16 := fun v w => run_typeAssert_lacksB Tryz.underlying141 (by kernel_rfl) (by kernel_rfl) v _ w
  a32 := fun v w => run_typeAssert_hasB Tryz.underlying144 (by kernel_rfl) v _ w
  au := fun v w => run_typeAssert_hasB Tryz.underlying74 (by kernel_rfl) v _ w
theorem tf_c46 : Tf 329 false true true true false true true where
  a1 := fun v w => run_typeAssert_lacksB Tryz.underlying129 (by kernel_rfl) (by kernel_rfl) v _ w
  a2 := fun v w => run_typeAssert_hasB Tryz.underlying132 (by kernel_rfl) v _ w
  a4 := fun v w => run_typeAssert_hasB Tryz.underlying135 (by kernel_rfl) v _ w
  a8 := fun v w => run_typeAssert_hasB Tryz.underlying138 (by kernel_rfl) v _ w
  a16 := fun v w => run_typeAssert_lacksB Tryz.underlying141 (by kernel_rfl) (by kernel_rfl) v _ w
  a32 := fun v w => run_typeAssert_hasB Tryz.underlying144 (by kernel_rfl) v _ w
  au := fun v w => run_typeAssert_hasB Tryz.underlying74 (by kernel_rfl) v _ w
theorem tf_c47 : Tf 332 true true true true false true true where
  a1 := fun v w => run_typeAssert_hasB Tryz.underlying129 (by kernel_rfl) v _ w
  a2 := fun v w => run_typeAssert_hasB Tryz.underlying132 (by kernel_rfl) v _ w
  a4 := fun v w => run_typeAssert_hasB Tryz.underlying135 (by kernel_rfl) v _ w
  a8 := fun v w => run_typeAssert_hasB Tryz.underlying138 (by kernel_rfl) v _ w
  a16 := fun v w => run_typeAssert_lacksB Tryz.underlying141 (by kernel_rfl) (by kernel_rfl) v _ w
  a32 := fun v w => run_typeAssert_hasB Tryz.underlying144 (by kernel_rfl) v _ w
  au := fun v w => run_typeAssert_hasB Tryz.underlying74 (by kernel_rfl) v _ w
theorem tf_c48 : Tf 335 false false false false true true true where
  a1 := fun v w => run_typeAssert_lacksB Tryz.underlying129 (by kernel_rfl) (by kernel_rfl) v _ w
  a2 := fun v w => run_typeAssert_lacksB Tryz.underlying132 (by kernel_rfl) (by kernel_rfl) v _ w
  a4 := fun v w => run_typeAssert_lacksB Tryz.underlying135 (by kernel_rfl) (by kernel_rfl) v _ w
  a8 := fun v w => run_typeAssert_lacksB Tryz.underlying138 (by kernel_rfl) (by kernel_rfl) v _ w
  a16 := fun v w => run_typeAssert_hasB Tryz.underlying141 (by kernel_rfl) v _ w
  a32 := fun v w => run_typeAssert_hasB Tryz.underlying144 (by kernel_rfl) v _ w
  au := fun v w => run_typeAssert_hasB Tryz.underlying74 (by kernel_rfl) v _ w
theorem tf_c49 : Tf 338 true false false false true true true where
  a1 := fun v w => run_typeAssert_hasB Tryz.underlying129 (by kernel_rfl) v _ w
  a2 := fun v w => run_typeAssert_lacksB Tryz.underlying132 (by kernel_rfl) (by kernel_rfl) v _ w
  a4 := fun v w => run_typeAssert_lacksB Tryz.underlying135 (by kernel_rfl) (by kernel_rfl) v _ w
  a8 := fun v w => run_typeAssert_lacksB Tryz.underlying138 (by kernel_rfl) (by kernel_rfl) v _ w
  a16 := fun v w => run_typeAssert_hasB Tryz.underlying141 (by kernel_rfl) v _ w
  a32 := fun v w => run_typeAssert_hasB Tryz.underlying144 (by kernel_rfl) v _ w
  au := fun v w => run_typeAssert_hasB Tryz.underlying74 (by kernel_rfl) v _ w
theorem tf_c50 : Tf 341 false true false false true true true where
  a1 := fun v w => run_typeAssert_lacksB Tryz.underlying129 (by kernel_rfl) (by kernel_rfl) v _ w
  a2 := fun v w => run_typeAssert_hasB Tryz.underlying132 (by kernel_rfl) v _ w
  a4 := fun v w => run_typeAssert_lacksB Tryz.underlying135 (by kernel_rfl) (by kernel_rfl) v _ w
  a8 := fun v w => run_typeAssert_lacksB Tryz.underlying138 (by kernel_rfl) (by kernel_rfl) v _ w
  a16 := fun v w => run_typeAssert_hasB Tryz.underlying141 (by kernel_rfl) v _ w
  a32 := fun v w => run_typeAssert_hasB Tryz.underlying144 (by kernel_rfl) v _ w
  au := fun v w => run_typeAssert_hasB Tryz.underlying74 (by kernel_rfl) v _ w
theorem tf_c51 : Tf 344 true true false false true true true where
  a1 := fun v w => run_typeAssert_hasB Tryz.underlying129 (by kernel_rfl) v _ w
  a2 := fun v w => run_typeAssert_hasB Tryz.underlying132 (by kernel_rfl) v _ w
  a4 := fun v w => run_typeAssert_lacksB Tryz.underlying135 (by kernel_rfl) (by kernel_rfl) v _ w
  a8 := fun v w => run_typeAssert_lacksB Tryz.underlying138 (by kernel_rfl) (by kernel_rfl) v _ w
  a16 := fun v w => run_typeAssert_hasB Tryz.underlying141 (by kernel_rfl) v _ w
  a32 := fun v w => run_typeAssert_hasB Tryz.underlying144 (by kernel_rfl) v _ w
  au := fun v w => run_typeAssert_hasB Tryz.underlying74 (by kernel_rfl) v _ w
theorem tf_c52 : Tf 347 false false true false true true true where
  a1 := fun v w => run_typeAssert_lacksB Tryz.underlying129 (by kernel_rfl) (by kernel_rfl) v _ w
  a2 := fun v w => run_typeAssert_lacksB Tryz.underlying132 (by kernel_rfl) (by kernel_rfl) v _ w
  a4 := fun v w => run_typeAssert_hasB Tryz.underlying135 (by kernel_rfl) v _ w
  a8 := fun v w => run_typeAssert_lacksB Tryz.underlying138 (by kernel_rfl) (by kernel_rfl) v _ w
  a16 := fun v w => run_typeAssert_hasB Tryz.underlying141 (by kernel_rfl) v _ w
  a32 := fun v w => run_typeAssert_hasB Tryz.underlying144 (by kernel_rfl) v _ w
  au := fun v w => run_typeAssert_hasB Tryz.underlying74 (by kernel_rfl) v _ w
theorem tf_c53 : Tf 350 true false true false true true true where
  a1 := fun v w => run_typeAssert_hasB Tryz.underlying129 (by kernel_rfl) v _ w
  a2 := fun v w => run_typeAssert_lacksB Tryz.underlying132 (by kernel_rfl) (by kernel_rfl) v _ w
  a4 := fun v w => run_typeAssert_hasB Tryz.underlying135 (by kernel_rfl) v _ w
  a8 := fun v w => run_typeAssert_lacksB Tryz.underlying138 (by kernel_rfl) (by kernel_rfl) v _ w
  a16 := fun v w => run_typeAssert_hasB Tryz.underlying141 (by kernel_rfl) v _ w
  a32 := fun v w => run_typeAssert_hasB Tryz.underlying144 (by kernel_rfl) v _ w
  au := fun v w => run_typeAssert_hasB Tryz.underlying74 (by kernel_rfl) v _ w
theorem tf_c54 : Tf 353 false true true false true true true where
  a1 := fun v w => run_typeAssert_lacksB Tryz.underlying129 (by kernel_rfl) (by kernel_rfl) v _ w
  a2 := fun v w => run_typeAssert_hasB Tryz.underlying132 (by kernel_rfl) v _ w
  a4 := fun v w => run_typeAssert_hasB Tryz.underlying135 (by kernel_rfl) v _ w
  a8 := fun v w => run_typeAssert_lacksB Tryz.underlying138 (by kernel_rfl) (by kernel_rfl) v _ w
  a16 := fun v w => run_typeAssert_hasB Tryz.underlying141 (by kernel_rfl) v _ w
  a32 := fun v w => run_typeAssert_hasB Tryz.underlying144 (by kernel_rfl) v _ w
  au := fun v w => run_typeAssert_hasB Tryz.underlying74 (by kernel_rfl) v _ w
theorem tf_c55 : Tf 356 true true true false true true true where
  a1 := fun v w => run_typeAssert_hasB Tryz.underlying129 (by kernel_rfl) v _ w
  a2 := fun v w => run_typeAssert_hasB Tryz.underlying132 (by kernel_rfl) v _ w
  a4 := fun v w => run_typeAssert_hasB Tryz.underlying135 (by kernel_rfl) v _ w
  a8 := fun v w => run_typeAssert_lacksB Tryz.underlying138 (by kernel_rfl) (by kernel_rfl) v _ w
  a16 := fun v w => run_typeAssert_hasB Tryz.underlying141 (by kernel_rfl) v _ w
  a32 := fun v w => run_typeAssert_hasB Tryz.underlying144 (by kernel_rfl) v _ w
  au := fun v w => run_typeAssert_hasB Tryz.underlying74 (by kernel_rfl) v _ w
theorem tf_c56 : Tf 359 false false false true true true true where
  a1 := fun v w => run_typeAssert_lacksB Tryz.underlying129 (by kernel_rfl) (by kernel_rfl) v _ w
  a2 := fun v w => run_typeAssert_lacksB Tryz.underlying132 (by kernel_rfl) (by kernel_rfl) v _ w
  a4 := fun v w => run_typeAssert_lacksB Tryz.underlying135 (by kernel_rfl) (by kernel_rfl) v _ w
  a8 := fun v w => run_typeAssert_hasB Tryz.underlying138 (by kernel_rfl) v _ w
  a16 := fun v w => run_typeAssert_hasB Tryz.underlying141 (by kernel_rfl) v _ w
  a32 := fun v w => run_typeAssert_hasB Tryz.underlying144 (by kernel_rfl) v _ w
  au := fun v w => run_typeAssert_hasB Tryz.underlying74 (by kernel_rfl) v _ w
theorem tf_c57 : Tf 362 true false false true true true true where
  a1 := fun v w => run_typeAssert_hasB Tryz.underlying129 (by kernel_rfl) v _ w
  a2 := fun v w => run_typeAssert_lacksB Tryz.underlying132 (by kernel_rfl) (by kernel_rfl) v _ w
  a4 := fun v w => run_typeAssert_lacksB Tryz.underlying135 (by kernel_rfl) (by kernel_rfl) v _ w
  a8 := fun v w => run_typeAssert_hasB Tryz.underlying138 (by kernel_rfl) v _ w
  a16 := fun v w => run_typeAssert_hasB Tryz.underlying141 (by kernel_rfl) v _ w
  a32 := fun v w => run_typeAssert_hasB Tryz.underlying144 (by kernel_rfl) v _ w
  au := fun v w => run_typeAssert_hasB Tryz.underlying74 (by kernel_rfl) v _ w
theorem tf_c58 : Tf 365 false true false true true true true where
  a1 := fun v w => run_typeAssert_lacksB Tryz.underlying129 (by kernel_rfl) (by kernel_rfl) v _ w
  a2 := fun v w => run_typeAssert_hasB Tryz.underlying132 (by kernel_rfl) v _ w
  a4 := fun v w => run_typeAssert_lacksB Tryz.underlying135 (by kernel_rfl) (by kernel_rfl) v _ w
  a8 := fun v w => run_typeAssert_hasB Tryz.underlying138 (by kernel_rfl) v _ w
  a16 := fun v w => run_typeAssert_hasB Tryz.underlying141 (by kernel_rfl) v _ w
  a32 := fun v w => run_typeAssert_hasB Tryz.underlying144 (by kernel_rfl) v _ w
  au := fun v w => run_typeAssert_hasB Tryz.underlying74 (by kernel_rfl) v _ w
theorem tf_c59 : Tf 368 true true false true true true true where
  a1 := fun v w => run_typeAssert_hasB Tryz.underlying129 (by kernel_rfl) v _ w
  a2 := fun v w => run_typeAssert_hasB Tryz.underlying132 (by kernel_rfl) v _ w
  a4 := fun v w => run_typeAssert_lacksB Tryz.underlying135 (by kernel_rfl) (by kernel_rfl) v _ w
  a8 := fun v w => run_typeAssert_hasB Tryz.underlying138 (by kernel_rfl) v _ w
  a16 := fun v w => run_typeAssert_hasB Tryz.underlying141 (by kernel_rfl) v _ w
  a32 := fun v w => run_typeAssert_hasB Tryz.underlying144 (by kernel_rfl) v _ w
  au := fun v w => run_typeAssert_hasB Tryz.underlying74 (by kernel_rfl) v _ w
theorem tf_c60 : Tf 371 false false true true true true true where
  a1 := fun v w => run_typeAssert_lacksB Tryz.underlying129 (by kernel_rfl) (by kernel_rfl) v _ w
  a2 := fun v w => run_typeAssert_lacksB Tryz.underlying132 (by kernel_rfl) (by kernel_rfl) v _ w
  a4 := fun v w => run_typeAssert_hasB Tryz.underlying135 (by kernel_rfl) v _ w
  a8 := fun v w => run_typeAssert_hasB Tryz.underlying138 (by kernel_rfl) v _ w
  a16 := fun v w => run_typeAssert_hasB Tryz.underlying141 (by kernel_rfl) v _ w
  a32 := fun v w => run_typeAssert_hasB Tryz.underlying144 (by kernel_rfl) v _ w
  au := fun v w => run_typeAssert_hasB Tryz.underlying74 (by kernel_rfl) v _ w
theorem tf_c61 : Tf 374 true false true true true true true where
  a1 := fun v w => run_typeAssert_hasB Tryz.underlying129 (by kernel_rfl) v _ w
  a2 := fun v w => run_typeAssert_lacksB Tryz.underlying132 (by kernel_rfl) (by kernel_rfl) v _ w
  a4 := fun v w => run_typeAssert_hasB Tryz.underlying135 (by kernel_rfl) v _ w
  a8 := fun v w => run_typeAssert_hasB Tryz.underlying138 (by kernel_rfl) v _ w
  a16 := fun v w => run_typeAssert_hasB Tryz.underlying141 (by kernel_rfl) v _ w
  a32 := fun v w => run_typeAssert_hasB Tryz.underlying144 (by kernel_rfl) v _ w
  au := fun v w => run_typeAssert_hasB Tryz.underlying74 (by kernel_rfl) v _ w
theorem tf_c62 : Tf 377 false true true true true true true where
  a1 := fun v w => run_typeAssert_lacksB Tryz.underlying129 (by kernel_rfl) (by kernel_rfl) v _ w
  a2 := fun v w => run_typeAssert_hasB Tryz.underlying132 (by kernel_rfl) v _ w
  a4 := fun v w => run_typeAssert_hasB Tryz.underlying135 (by kernel_rfl) v _ w
  a8 := fun v w => run_typeAssert_hasB Tryz.underlying138 (by kernel_rfl) v _ w
  a16 := fun v w => run_typeAssert_hasB Tryz.underlying141 (by kernel_rfl) v _ w
  a32 := fun v w => run_typeAssert_hasB Tryz.underlying144 (by kernel_rfl) v _ w
  au := fun v w => run_typeAssert_hasB Tryz.underlying74 (by kernel_rfl) v _ w
theorem tf_c63 : Tf 380 true true true true true true true where
  a1 := fun v w => run_typeAssert_hasB Tryz.underlying129 (by kernel_rfl) v _ w
  a2 := fun v w => run_typeAssert_hasB Tryz.underlying132 (by kernel_rfl) v _ w
  a4 := fun v w => run_typeAssert_hasB Tryz.underlying135 (by kernel_rfl) v _ w
  a8 := fun v w => run_typeAssert_hasB Tryz.underlying138 (by kernel_rfl) v _ w
  a16 := fun v w => run_typeAssert_hasB Tryz.underlying141 (by kernel_rfl) v _ w
  a32 := fun v w => run_typeAssert_hasB Tryz.underlying144 (by kernel_rfl) v _ w
  au := fun v w => run_typeAssert_hasB Tryz.underlying74 (by kernel_rfl) v _ w
theorem tf_can : ∀ k : Nat, k < 64 → Tf (cid k) (k.testBit 0) (k.testBit 1) (k.testBit 2) (k.testBit 3) (k.testBit 4) (k.testBit 5) true
  | 0, _ => tf_c0
  | 1, _ => tf_c1
  | 2, _ => tf_c2
  | 3, _ => tf_c3
  | 4, _ => tf_c4
  | 5, _ => tf_c5
  | 6, _ => tf_c6
  | 7, _ => tf_c7
  | 8, _ => tf_c8
  | 9, _ => tf_c9
  | 10, _ => tf_c10
  | 11, _ => tf_c11
  | 12, _ => tf_c12
  | 13, _ => tf_c13
  | 14, _ => tf_c14
  | 15, _ => tf_c15
  | 16, _ => tf_c16
  | 17, _ => tf_c17
  | 18, _ => tf_c18
  | 19, _ => tf_c19
  | 20, _ => tf_c20
  | 21, _ => tf_c21
  | 22, _ => tf_c22
  | 23, _ => tf_c23
  | 24, _ => tf_c24
  | 25, _ => tf_c25
  | 26, _ => tf_c26
  | 27, _ => tf_c27
  | 28, _ => tf_c28
  | 29, _ => tf_c29
  | 30, _ => tf_c30
  | 31, _ => tf_c31
  | 32, _ => tf_c32
  | 33, _ => tf_c33
  | 34, _ => tf_c34
  | 35, _ => tf_c35
  | 36, _ => tf_c36
  | 37, _ => tf_c37
  | 38, _ => tf_c38
  | 39, _ => tf_c39
  | 40, _ => tf_c40
  | 41, _ => tf_c41
  | 42, _ => tf_c42
  | 43, _ => tf_c43
  | 44, _ => tf_c44
  | 45, _ => tf_c45
  | 46, _ => tf_c46
  | 47, _ => tf_c47
  | 48, _ => tf_c48
  | 49, _ => tf_c49
  | 50, _ => tf_c50
  | 51, _ => tf_c51
  | 52, _ => tf_c52
  | 53, _ => tf_c53
  | 54, _ => tf_c54
  | 55, _ => tf_c55
  | 56, _ => tf_c56
  | 57, _ => tf_c57
  | 58, _ => tf_c58
  | 59, _ => tf_c59
  | 60, _ => tf_c60
  | 61, _ => tf_c61
  | 62, _ => tf_c62
  | 63, _ => tf_c63
  | n + 64, h => absurd h (by omega)
theorem tw_c0 : Tw 383 false true where
  ah := fun v w => by kernel_rfl
  ac := fun v w => run_typeAssert_hasB Tryz.underlying182 (by kernel_rfl) v _ w
theorem tw_c1 : Tw 386 false true where
  ah := fun v w => by kernel_rfl
  ac := fun v w => run_typeAssert_hasB Tryz.underlying182 (by kernel_rfl) v _ w
theorem tw_c2 : Tw 389 false true where
  ah := fun v w => by kernel_rfl
  ac := fun v w => run_typeAssert_hasB Tryz.underlying182 (by kernel_rfl) v _ w
theorem tw_c3 : Tw 392 false true where
  ah := fun v w => by kernel_rfl
  ac := fun v w => run_typeAssert_hasB Tryz.underlying182 (by kernel_rfl) v _ w
theorem tw_c4 : Tw 395 false true where
  ah := fun v w => by kernel_rfl
  ac := fun v w => run_typeAssert_hasB Tryz.underlying182 (by kernel_rfl) v _ w
theorem tw_c5 : Tw 398 false true where
  ah := fun v w => by kernel_rfl
  ac := fun v w => run_typeAssert_hasB Tryz.underlying182 (by kernel_rfl) v _ w
theorem tw_c6 : Tw 401 false true where
  ah := fun v w => by kernel_rfl
  ac := fun v w => run_typeAssert_hasB Tryz.underlying182 (by kernel_rfl) v _ w
theorem tw_c7 : Tw 404 false true where
  ah := fun v w => by kernel_rfl
  ac := fun v w => run_typeAssert_hasB Tryz.underlying182 (by kernel_rfl) v _ w
theorem tw_c8 : Tw 407 false true where
  ah := fun v w => by kernel_rfl
  ac := fun v w => run_typeAssert_hasB Tryz.underlying182 (by kernel_rfl) v _ w
theorem tw_c9 : Tw 410 false true where
  ah := fun v w => by kernel_rfl
  ac := fun v w => run_typeAssert_hasB Tryz.underlying182 (by kernel_rfl) v _ w
theorem tw_c10 : Tw 413 false true where
  ah := fun v w => by kernel_rfl
  ac := fun v w => run_typeAssert_hasB Tryz.underlying182 (by kernel_rfl) v _ w
theorem tw_c11 : Tw 416 false true where
  ah := fun v w => by kernel_rfl
  ac := fun v w => run_typeAssert_hasB Tryz.underlying182 (by kernel_rfl) v _ w
theorem tw_c12 : Tw 419 false true where
  ah := fun v w => by kernel_rfl
  ac := fun v w => run_typeAssert_hasB Tryz.underlying182 (by kernel_rfl) v _ w
theorem tw_c13 : Tw 422 false true where
  ah := fun v w => by kernel_rfl
  ac := fun v w => run_typeAssert_hasB Tryz.underlying182 (by kernel_rfl) v _ w
theorem tw_c14 : Tw 425 false true where
  ah := fun v w => by kernel_rfl
  ac := fun v w => run_typeAssert_hasB Tryz.underlying182 (by kernel_rfl) v _ w
theorem tw_c15 : Tw 428 false true where
  ah := fun v w => by kernel_rfl
  ac := fun v w => run_typeAssert_hasB Tryz.underlying182 (by kernel_rfl) v _ w
theorem tw_c16 : Tw 238 false true where
  ah := fun v w => by kernel_rfl
  ac := fun v w => run_typeAssert_hasB Tryz.underlying182 (by kernel_rfl) v _ w
theorem tw_c17 : Tw 241 false true where
  ah := fun v w => by kernel_rfl
  ac := fun v w => run_typeAssert_hasB Tryz.underlying182 (by kernel_rfl) v _ w
theorem tw_c18 : Tw 244 false true where
  ah := fun v w => by kernel_rfl
  ac := fun v w => run_typeAssert_hasB Tryz.underlying182 (by kernel_rfl) v _ w
theorem tw_c19 : Tw 247 false true where
  ah := fun v w => by kernel_rfl
  ac := fun v w => run_typeAssert_hasB Tryz.underlying182 (by kernel_rfl) v _ w
theorem tw_c20 : Tw 250 false true where
  ah := fun v w => by kernel_rfl
  ac := fun v w => run_typeAssert_hasB Tryz.underlying182 (by kernel_rfl) v _ w
theorem tw_c21 : Tw 253 false true where
  ah := fun v w => by kernel_rfl
  ac := fun v w => run_typeAssert_hasB Tryz.underlying182 (by kernel_rfl) v _ w
theorem tw_c22 : Tw 256 false true where
  ah := fun v w => by kernel_rfl
  ac := fun v w => run_typeAssert_hasB Tryz.underlying182 (by kernel_rfl) v _ w
theorem tw_c23 : Tw 259 false true where
  ah := fun v w => by kernel_rfl
  ac := fun v w => run_typeAssert_hasB Tryz.underlying182 (by kernel_rfl) v _ w
theorem tw_c24 : Tw 262 false true where
  ah := fun v w => by kernel_rfl
  ac := fun v w => run_typeAssert_hasB Tryz.underlying182 (by kernel_rfl) v _ w
theorem tw_c25 : Tw 265 false true where
  ah := fun v w => by kernel_rfl
  ac := fun v w => run_typeAssert_hasB Tryz.underlying182 (by kernel_rfl) v _ w
theorem tw_c26 : Tw 268 false true where
  ah := fun v w => by kernel_rfl
  ac := fun v w => run_typeAssert_hasB Tryz.underlying182 (by kernel_rfl) v _ w
theorem tw_c27 : Tw 271 false true where
  ah := fun v w => by kernel_rfl
  ac := fun v w => run_typeAssert_hasB Tryz.underlying182 (by kernel_rfl) v _ w
theorem tw_c28 : Tw 274 false true where
  ah := fun v w => by kernel_rfl
  ac := fun v w => run_typeAssert_hasB Tryz.underlying182 (by kernel_rfl) v _ w
theorem tw_c29 : Tw 277 false true where
  ah := fun v w => by kernel_rfl
  ac := fun v w => run_typeAssert_hasB Tryz.underlying182 (by kernel_rfl) v _ w
theorem tw_c30 : Tw 280 false true where
  ah := fun v w => by kernel_rfl
  ac := fun v w => run_typeAssert_hasB Tryz.underlying182 (by kernel_rfl) v _ w
theorem tw_c31 : Tw 283 false true where
  ah := fun v w => by kernel_rfl
  ac := fun v w => run_typeAssert_hasB Tryz.underlying182 (by kernel_rfl) v _ w
theorem tw_c32 : Tw 287 false true where
  ah := fun v w => by kernel_rfl
  ac := fun v w => run_typeAssert_hasB Tryz.underlying182 (by kernel_rfl) v _ w
theorem tw_c33 : Tw 290 false true where
  ah := fun v w => by kernel_rfl
  ac := fun v w => run_typeAssert_hasB Tryz.underlying182 (by kernel_rfl) v _ w
theorem tw_c34 : Tw 293 false true where
  ah := fun v w => by kernel_rfl
  ac := fun v w => run_typeAssert_hasB Tryz.underlying182 (by kernel_rfl) v _ w
theorem tw_c35 : Tw 296 false true where
  ah := fun v w => by kernel_rfl
  ac := fun v w => run_typeAssert_hasB Tryz.underlying182 (by kernel_rfl) v _ w
theorem tw_c36 : Tw 299 false true where
  ah := fun v w => by kernel_rfl
  ac := fun v w => run_typeAssert_hasB Tryz.underlying182 (by kernel_rfl) v _ w
theorem tw_c37 : Tw 302 false true where
  ah := fun v w => by kernel_rfl
  ac := fun v w => run_typeAssert_hasB Tryz.underlying182 (by kernel_rfl) v _ w
theorem tw_c38 : Tw 305 false true where
  ah := fun v w => by kernel_rfl
  ac := fun v w => run_typeAssert_hasB Tryz.underlying182 (by kernel_rfl) v _ w
theorem tw_c39 : Tw 308 false true where
  ah := fun v w => by kernel_rfl
  ac := fun v w => run_typeAssert_hasB Tryz.underlying182 (by kernel_rfl) v _ w
theorem tw_c40 : Tw 311 false true where
  ah := fun v w => by kernel_rfl
  ac := fun v w => run_typeAssert_hasB Tryz.underlying182 (by kernel_rfl) v _ w
theorem tw_c41 : Tw 314 false true where
  ah := fun v w => by kernel_rfl
  ac := fun v w => run_typeAssert_hasB Tryz.underlying182 (by kernel_rfl) v _ w
theorem tw_c42 : Tw 317 false true where
  ah := fun v w => by kernel_rfl
  ac := fun v w => run_typeAssert_hasB Tryz.underlying182 (by kernel_rfl) v _ w
theorem tw_c43 : Tw 320 false true where
  ah := fun v w => by kernel_rfl
  ac := fun v w => run_typeAssert_hasB Tryz.underlying182 (by kernel_rfl) v _ w
theorem tw_c44 : Tw 323 false true where
  ah := fun v w => by kernel_rfl
  ac := fun v w => run_typeAssert_hasB Tryz.underlying182 (by kernel_rfl) v _ w
theorem tw_c45 : Tw 326 false true where
  ah := fun v w => by kernel_rfl
  ac := fun v w => run_typeAssert_hasB Tryz.underlying182 (by kernel_rfl) v _ w
theorem tw_c46 : Tw 329 false true where
  ah := fun v w => by kernel_rfl
  ac := fun v w => run_typeAssert_hasB Tryz.underlying182 (by kernel_rfl) v _ w
theorem tw_c47 : Tw 332 false true where
  ah := fun v w => by kernel_rfl
  ac := fun v w => run_typeAssert_hasB Tryz.underlying182 (by kernel_rfl) v _ w
theorem tw_c48 : Tw 335 false true where
  ah := fun v w => by kernel_rfl
  ac := fun v w => run_typeAssert_hasB Tryz.underlying182 (by kernel_rfl) v _ w
theorem tw_c49 : Tw 338 false true where
  ah := fun v w => by kernel_rfl
  ac := fun v w => run_typeAssert_hasB Tryz.underlying182 (by kernel_rfl) v _ w
theorem tw_c50 : Tw 341 false true where
  ah := fun v w => by kernel_rfl
  ac := fun v w => run_typeAssert_hasB Tryz.underlying182 (by kernel_rfl) v _ w
theorem tw_c51 : Tw 344 false true where
  ah := fun v w => by kernel_rfl
  ac := fun v w => run_typeAssert_hasB Tryz.underlying182 (by kernel_rfl) v _ w
theorem tw_c52 : Tw 347 false true where
  ah := fun v w => by kernel_rfl
  ac := fun v w => run_typeAssert_hasB Tryz.underlying182 (by kernel_rfl) v _ w
theorem tw_c53 : Tw 350 false true where
  ah := fun v w => by kernel_rfl
  ac := fun v w => run_typeAssert_hasB Tryz.underlying182 (by kernel_rfl) v _ w
theorem tw_c54 : Tw 353 false true where
  ah := fun v w => by kernel_rfl
  ac := fun v w => run_typeAssert_hasB Tryz.underlying182 (by kernel_rfl) v _ w
theorem tw_c55 : Tw 356 false true where
  ah := fun v w => by kernel_rfl
  ac := fun v w => run_typeAssert_hasB Tryz.underlying182 (by kernel_rfl) v _ w
theorem tw_c56 : Tw 359 false true where
  ah := fun v w => by kernel_rfl
  ac := fun v w => run_typeAssert_hasB Tryz.underlying182 (by kernel_rfl) v _ w
theorem tw_c57 : Tw 362 false true where
  ah := fun v w => by kernel_rfl
  ac := fun v w => run_typeAssert_hasB Tryz.underlying182 (by kernel_rfl) v _ w
theorem tw_c58 : Tw 365 false true where
  ah := fun v w => by kernel_rfl
  ac := fun v w => run_typeAssert_hasB Tryz.underlying182 (by kernel_rfl) v _ w
theorem tw_c59 : Tw 368 false true where
  ah := fun v w => by kernel_rfl
  ac := fun v w => run_typeAssert_hasB Tryz.underlying182 (by kernel_rfl) v _ w
theorem tw_c60 : Tw 371 false true where
  ah := fun v w => by kernel_rfl
  ac := fun v w => run_typeAssert_hasB Tryz.underlying182 (by kernel_rfl) v _ w
theorem tw_c61 : Tw 374 false true where
  ah := fun v w => by kernel_rfl
  ac := fun v w => run_typeAssert_hasB Tryz.underlying182 (by kernel_rfl) v _ w
theorem tw_c62 : Tw 377 false true where
  ah := fun v w => by kernel_rfl
  ac := fun v w => run_typeAssert_hasB Tryz.underlying182 (by kernel_rfl) v _ w
theorem tw_c63 : Tw 380 false true where
  ah := fun v w => by kernel_rfl
  ac := fun v w => run_typeAssert_hasB Tryz.underlying182 (by kernel_rfl) v _ w
theorem tw_can : ∀ k : Nat, k < 64 → Tw (cid k) false true
  | 0, _ => tw_c0
  | 1, _ => tw_c1
  | 2, _ => tw_c2
  | 3, _ => tw_c3
  | 4, _ => tw_c4
  | 5, _ => tw_c5
  | 6, _ => tw_c6
  | 7, _ => tw_c7
  | 8, _ => tw_c8
  | 9, _ => tw_c9
  | 10, _ => tw_c10
  | 11, _ => tw_c11
  | 12, _ => tw_c12
  | 13, _ => tw_c13
  | 14, _ => tw_c14
  | 15, _ => tw_c15
  | 16, _ => tw_c16
  | 17, _ => tw_c17
  | 18, _ => tw_c18
  | 19, _ => tw_c19
  | 20, _ => tw_c20
  | 21, _ => tw_c21
  | 22, _ => tw_c22
  | 23, _ => tw_c23
  | 24, _ => tw_c24
  | 25, _ => tw_c25
  | 26, _ => tw_c26
  | 27, _ => tw_c27
  | 28, _ => tw_c28
  | 29, _ => tw_c29
  | 30, _ => tw_c30
  | 31, _ => tw_c31
  | 32, _ => tw_c32
  | 33, _ => tw_c33
  | 34, _ => tw_c34
  | 35, _ => tw_c35
  | 36, _ => tw_c36
  | 37, _ => tw_c37
  | 38, _ => tw_c38
  | 39, _ => tw_c39
  | 40, _ => tw_c40
  | 41, _ => tw_c41
  | 42, _ => tw_c42
  | 43, _ => tw_c43
  | 44, _ => tw_c44
  | 45, _ => tw_c45
  | 46, _ => tw_c46
  | 47, _ => tw_c47
  | 48, _ => tw_c48
  | 49, _ => tw_c49
  | 50, _ => tw_c50
  | 51, _ => tw_c51
  | 52, _ => tw_c52
  | 53, _ => tw_c53
  | 54, _ => tw_c54
  | 55, _ => tw_c55
  | 56, _ => tw_c56
  | 57, _ => tw_c57
  | 58, _ => tw_c58
  | 59, _ => tw_c59
  | 60, _ => tw_c60
  | 61, _ => tw_c61
  | 62, _ => tw_c62
  | 63, _ => tw_c63
  | n + 64, h => absurd h (by omega)

/-- A method that goes to the wrapper within, or to one of its abilities: what is read first. -/
theorem load_ptr (b j a : Nat) (fn : FuncId) (w : World) (h : w.cell? ⟨b, j, none⟩ = some (.pointer (some ⟨a, 0, none⟩))) :
    (do let v ← loadVar 117 ⟨b, j, none⟩; pure (fn, v) : Sem (FuncId × Value)).run Tryz.prog w = .ok (fn, .pointer (some ⟨a, 0, none⟩)) w := by
  simp [go_sem, h]

theorem mw_Kind : ∀ k : Nat, k < 64 → ∀ (f b a : Nat) (w : World), w.cell? ⟨b, 0, none⟩ = some (.pointer (some ⟨a, 0, none⟩)) → (method (f + 1) (cid k) (.pointer (some ⟨b, 0, none⟩)) "Kind").run Tryz.prog w = .ok (199, .pointer (some ⟨a, 0, none⟩)) w
  | 0, _, f, b, a, w, h => (show (method (f + 1) 383 (.pointer (some ⟨b, 0, none⟩)) "Kind").run Tryz.prog w = (do let v ← loadVar 117 ⟨b, 0, none⟩; pure (199, v) : Sem (FuncId × Value)).run Tryz.prog w by kernel_rfl).trans (load_ptr b 0 a _ w h)
  | 1, _, f, b, a, w, h => (show (method (f + 1) 386 (.pointer (some ⟨b, 0, none⟩)) "Kind").run Tryz.prog w = (do let v ← loadVar 117 ⟨b, 0, none⟩; pure (199, v) : Sem (FuncId × Value)).run Tryz.prog w by kernel_rfl).trans (load_ptr b 0 a _ w h)
  | 2, _, f, b, a, w, h => (show (method (f + 1) 389 (.pointer (some ⟨b, 0, none⟩)) "Kind").run Tryz.prog w = (do let v ← loadVar 117 ⟨b, 0, none⟩; pure (199, v) : Sem (FuncId × Value)).run Tryz.prog w by kernel_rfl).trans (load_ptr b 0 a _ w h)
  | 3, _, f, b, a, w, h => (show (method (f + 1) 392 (.pointer (some ⟨b, 0, none⟩)) "Kind").run Tryz.prog w = (do let v ← loadVar 117 ⟨b, 0, none⟩; pure (199, v) : Sem (FuncId × Value)).run Tryz.prog w by kernel_rfl).trans (load_ptr b 0 a _ w h)
  | 4, _, f, b, a, w, h => (show (method (f + 1) 395 (.pointer (some ⟨b, 0, none⟩)) "Kind").run Tryz.prog w = (do let v ← loadVar 117 ⟨b, 0, none⟩; pure (199, v) : Sem (FuncId × Value)).run Tryz.prog w by kernel_rfl).trans (load_ptr b 0 a _ w h)
  | 5, _, f, b, a, w, h => (show (method (f + 1) 398 (.pointer (some ⟨b, 0, none⟩)) "Kind").run Tryz.prog w = (do let v ← loadVar 117 ⟨b, 0, none⟩; pure (199, v) : Sem (FuncId × Value)).run Tryz.prog w by kernel_rfl).trans (load_ptr b 0 a _ w h)
  | 6, _, f, b, a, w, h => (show (method (f + 1) 401 (.pointer (some ⟨b, 0, none⟩)) "Kind").run Tryz.prog w = (do let v ← loadVar 117 ⟨b, 0, none⟩; pure (199, v) : Sem (FuncId × Value)).run Tryz.prog w by kernel_rfl).trans (load_ptr b 0 a _ w h)
  | 7, _, f, b, a, w, h => (show (method (f + 1) 404 (.pointer (some ⟨b, 0, none⟩)) "Kind").run Tryz.prog w = (do let v ← loadVar 117 ⟨b, 0, none⟩; pure (199, v) : Sem (FuncId × Value)).run Tryz.prog w by kernel_rfl).trans (load_ptr b 0 a _ w h)
  | 8, _, f, b, a, w, h => (show (method (f + 1) 407 (.pointer (some ⟨b, 0, none⟩)) "Kind").run Tryz.prog w = (do let v ← loadVar 117 ⟨b, 0, none⟩; pure (199, v) : Sem (FuncId × Value)).run Tryz.prog w by kernel_rfl).trans (load_ptr b 0 a _ w h)
  | 9, _, f, b, a, w, h => (show (method (f + 1) 410 (.pointer (some ⟨b, 0, none⟩)) "Kind").run Tryz.prog w = (do let v ← loadVar 117 ⟨b, 0, none⟩; pure (199, v) : Sem (FuncId × Value)).run Tryz.prog w by kernel_rfl).trans (load_ptr b 0 a _ w h)
  | 10, _, f, b, a, w, h => (show (method (f + 1) 413 (.pointer (some ⟨b, 0, none⟩)) "Kind").run Tryz.prog w = (do let v ← loadVar 117 ⟨b, 0, none⟩; pure (199, v) : Sem (FuncId × Value)).run Tryz.prog w by kernel_rfl).trans (load_ptr b 0 a _ w h)
  | 11, _, f, b, a, w, h => (show (method (f + 1) 416 (.pointer (some ⟨b, 0, none⟩)) "Kind").run Tryz.prog w = (do let v ← loadVar 117 ⟨b, 0, none⟩; pure (199, v) : Sem (FuncId × Value)).run Tryz.prog w by kernel_rfl).trans (load_ptr b 0 a _ w h)
  | 12, _, f, b, a, w, h => (show (method (f + 1) 419 (.pointer (some ⟨b, 0, none⟩)) "Kind").run Tryz.prog w = (do let v ← loadVar 117 ⟨b, 0, none⟩; pure (199, v) : Sem (FuncId × Value)).run Tryz.prog w by kernel_rfl).trans (load_ptr b 0 a _ w h)
  | 13, _, f, b, a, w, h => (show (method (f + 1) 422 (.pointer (some ⟨b, 0, none⟩)) "Kind").run Tryz.prog w = (do let v ← loadVar 117 ⟨b, 0, none⟩; pure (199, v) : Sem (FuncId × Value)).run Tryz.prog w by kernel_rfl).trans (load_ptr b 0 a _ w h)
  | 14, _, f, b, a, w, h => (show (method (f + 1) 425 (.pointer (some ⟨b, 0, none⟩)) "Kind").run Tryz.prog w = (do let v ← loadVar 117 ⟨b, 0, none⟩; pure (199, v) : Sem (FuncId × Value)).run Tryz.prog w by kernel_rfl).trans (load_ptr b 0 a _ w h)
  | 15, _, f, b, a, w, h => (show (method (f + 1) 428 (.pointer (some ⟨b, 0, none⟩)) "Kind").run Tryz.prog w = (do let v ← loadVar 117 ⟨b, 0, none⟩; pure (199, v) : Sem (FuncId × Value)).run Tryz.prog w by kernel_rfl).trans (load_ptr b 0 a _ w h)
  | 16, _, f, b, a, w, h => (show (method (f + 1) 238 (.pointer (some ⟨b, 0, none⟩)) "Kind").run Tryz.prog w = (do let v ← loadVar 117 ⟨b, 0, none⟩; pure (199, v) : Sem (FuncId × Value)).run Tryz.prog w by kernel_rfl).trans (load_ptr b 0 a _ w h)
  | 17, _, f, b, a, w, h => (show (method (f + 1) 241 (.pointer (some ⟨b, 0, none⟩)) "Kind").run Tryz.prog w = (do let v ← loadVar 117 ⟨b, 0, none⟩; pure (199, v) : Sem (FuncId × Value)).run Tryz.prog w by kernel_rfl).trans (load_ptr b 0 a _ w h)
  | 18, _, f, b, a, w, h => (show (method (f + 1) 244 (.pointer (some ⟨b, 0, none⟩)) "Kind").run Tryz.prog w = (do let v ← loadVar 117 ⟨b, 0, none⟩; pure (199, v) : Sem (FuncId × Value)).run Tryz.prog w by kernel_rfl).trans (load_ptr b 0 a _ w h)
  | 19, _, f, b, a, w, h => (show (method (f + 1) 247 (.pointer (some ⟨b, 0, none⟩)) "Kind").run Tryz.prog w = (do let v ← loadVar 117 ⟨b, 0, none⟩; pure (199, v) : Sem (FuncId × Value)).run Tryz.prog w by kernel_rfl).trans (load_ptr b 0 a _ w h)
  | 20, _, f, b, a, w, h => (show (method (f + 1) 250 (.pointer (some ⟨b, 0, none⟩)) "Kind").run Tryz.prog w = (do let v ← loadVar 117 ⟨b, 0, none⟩; pure (199, v) : Sem (FuncId × Value)).run Tryz.prog w by kernel_rfl).trans (load_ptr b 0 a _ w h)
  | 21, _, f, b, a, w, h => (show (method (f + 1) 253 (.pointer (some ⟨b, 0, none⟩)) "Kind").run Tryz.prog w = (do let v ← loadVar 117 ⟨b, 0, none⟩; pure (199, v) : Sem (FuncId × Value)).run Tryz.prog w by kernel_rfl).trans (load_ptr b 0 a _ w h)
  | 22, _, f, b, a, w, h => (show (method (f + 1) 256 (.pointer (some ⟨b, 0, none⟩)) "Kind").run Tryz.prog w = (do let v ← loadVar 117 ⟨b, 0, none⟩; pure (199, v) : Sem (FuncId × Value)).run Tryz.prog w by kernel_rfl).trans (load_ptr b 0 a _ w h)
  | 23, _, f, b, a, w, h => (show (method (f + 1) 259 (.pointer (some ⟨b, 0, none⟩)) "Kind").run Tryz.prog w = (do let v ← loadVar 117 ⟨b, 0, none⟩; pure (199, v) : Sem (FuncId × Value)).run Tryz.prog w by kernel_rfl).trans (load_ptr b 0 a _ w h)
  | 24, _, f, b, a, w, h => (show (method (f + 1) 262 (.pointer (some ⟨b, 0, none⟩)) "Kind").run Tryz.prog w = (do let v ← loadVar 117 ⟨b, 0, none⟩; pure (199, v) : Sem (FuncId × Value)).run Tryz.prog w by kernel_rfl).trans (load_ptr b 0 a _ w h)
  | 25, _, f, b, a, w, h => (show (method (f + 1) 265 (.pointer (some ⟨b, 0, none⟩)) "Kind").run Tryz.prog w = (do let v ← loadVar 117 ⟨b, 0, none⟩; pure (199, v) : Sem (FuncId × Value)).run Tryz.prog w by kernel_rfl).trans (load_ptr b 0 a _ w h)
  | 26, _, f, b, a, w, h => (show (method (f + 1) 268 (.pointer (some ⟨b, 0, none⟩)) "Kind").run Tryz.prog w = (do let v ← loadVar 117 ⟨b, 0, none⟩; pure (199, v) : Sem (FuncId × Value)).run Tryz.prog w by kernel_rfl).trans (load_ptr b 0 a _ w h)
  | 27, _, f, b, a, w, h => (show (method (f + 1) 271 (.pointer (some ⟨b, 0, none⟩)) "Kind").run Tryz.prog w = (do let v ← loadVar 117 ⟨b, 0, none⟩; pure (199, v) : Sem (FuncId × Value)).run Tryz.prog w by kernel_rfl).trans (load_ptr b 0 a _ w h)
  | 28, _, f, b, a, w, h => (show (method (f + 1) 274 (.pointer (some ⟨b, 0, none⟩)) "Kind").run Tryz.prog w = (do let v ← loadVar 117 ⟨b, 0, none⟩; pure (199, v) : Sem (FuncId × Value)).run Tryz.prog w by kernel_rfl).trans (load_ptr b 0 a _ w h)
  | 29, _, f, b, a, w, h => (show (method (f + 1) 277 (.pointer (some ⟨b, 0, none⟩)) "Kind").run Tryz.prog w = (do let v ← loadVar 117 ⟨b, 0, none⟩; pure (199, v) : Sem (FuncId × Value)).run Tryz.prog w by kernel_rfl).trans (load_ptr b 0 a _ w h)
  | 30, _, f, b, a, w, h => (show (method (f + 1) 280 (.pointer (some ⟨b, 0, none⟩)) "Kind").run Tryz.prog w = (do let v ← loadVar 117 ⟨b, 0, none⟩; pure (199, v) : Sem (FuncId × Value)).run Tryz.prog w by kernel_rfl).trans (load_ptr b 0 a _ w h)
  | 31, _, f, b, a, w, h => (show (method (f + 1) 283 (.pointer (some ⟨b, 0, none⟩)) "Kind").run Tryz.prog w = (do let v ← loadVar 117 ⟨b, 0, none⟩; pure (199, v) : Sem (FuncId × Value)).run Tryz.prog w by kernel_rfl).trans (load_ptr b 0 a _ w h)
  | 32, _, f, b, a, w, h => (show (method (f + 1) 287 (.pointer (some ⟨b, 0, none⟩)) "Kind").run Tryz.prog w = (do let v ← loadVar 117 ⟨b, 0, none⟩; pure (199, v) : Sem (FuncId × Value)).run Tryz.prog w by kernel_rfl).trans (load_ptr b 0 a _ w h)
  | 33, _, f, b, a, w, h => (show (method (f + 1) 290 (.pointer (some ⟨b, 0, none⟩)) "Kind").run Tryz.prog w = (do let v ← loadVar 117 ⟨b, 0, none⟩; pure (199, v) : Sem (FuncId × Value)).run Tryz.prog w by kernel_rfl).trans (load_ptr b 0 a _ w h)
  | 34, _, f, b, a, w, h => (show (method (f + 1) 293 (.pointer (some ⟨b, 0, none⟩)) "Kind").run Tryz.prog w = (do let v ← loadVar 117 ⟨b, 0, none⟩; pure (199, v) : Sem (FuncId × Value)).run Tryz.prog w by kernel_rfl).trans (load_ptr b 0 a _ w h)
  | 35, _, f, b, a, w, h => (show (method (f + 1) 296 (.pointer (some ⟨b, 0, none⟩)) "Kind").run Tryz.prog w = (do let v ← loadVar 117 ⟨b, 0, none⟩; pure (199, v) : Sem (FuncId × Value)).run Tryz.prog w by kernel_rfl).trans (load_ptr b 0 a _ w h)
  | 36, _, f, b, a, w, h => (show (method (f + 1) 299 (.pointer (some ⟨b, 0, none⟩)) "Kind").run Tryz.prog w = (do let v ← loadVar 117 ⟨b, 0, none⟩; pure (199, v) : Sem (FuncId × Value)).run Tryz.prog w by kernel_rfl).trans (load_ptr b 0 a _ w h)
  | 37, _, f, b, a, w, h => (show (method (f + 1) 302 (.pointer (some ⟨b, 0, none⟩)) "Kind").run Tryz.prog w = (do let v ← loadVar 117 ⟨b, 0, none⟩; pure (199, v) : Sem (FuncId × Value)).run Tryz.prog w by kernel_rfl).trans (load_ptr b 0 a _ w h)
  | 38, _, f, b, a, w, h => (show (method (f + 1) 305 (.pointer (some ⟨b, 0, none⟩)) "Kind").run Tryz.prog w = (do let v ← loadVar 117 ⟨b, 0, none⟩; pure (199, v) : Sem (FuncId × Value)).run Tryz.prog w by kernel_rfl).trans (load_ptr b 0 a _ w h)
  | 39, _, f, b, a, w, h => (show (method (f + 1) 308 (.pointer (some ⟨b, 0, none⟩)) "Kind").run Tryz.prog w = (do let v ← loadVar 117 ⟨b, 0, none⟩; pure (199, v) : Sem (FuncId × Value)).run Tryz.prog w by kernel_rfl).trans (load_ptr b 0 a _ w h)
  | 40, _, f, b, a, w, h => (show (method (f + 1) 311 (.pointer (some ⟨b, 0, none⟩)) "Kind").run Tryz.prog w = (do let v ← loadVar 117 ⟨b, 0, none⟩; pure (199, v) : Sem (FuncId × Value)).run Tryz.prog w by kernel_rfl).trans (load_ptr b 0 a _ w h)
  | 41, _, f, b, a, w, h => (show (method (f + 1) 314 (.pointer (some ⟨b, 0, none⟩)) "Kind").run Tryz.prog w = (do let v ← loadVar 117 ⟨b, 0, none⟩; pure (199, v) : Sem (FuncId × Value)).run Tryz.prog w by kernel_rfl).trans (load_ptr b 0 a _ w h)
  | 42, _, f, b, a, w, h => (show (method (f + 1) 317 (.pointer (some ⟨b, 0, none⟩)) "Kind").run Tryz.prog w = (do let v ← loadVar 117 ⟨b, 0, none⟩; pure (199, v) : Sem (FuncId × Value)).run Tryz.prog w by kernel_rfl).trans (load_ptr b 0 a _ w h)
  | 43, _, f, b, a, w, h => (show (method (f + 1) 320 (.pointer (some ⟨b, 0, none⟩)) "Kind").run Tryz.prog w = (do let v ← loadVar 117 ⟨b, 0, none⟩; pure (199, v) : Sem (FuncId × Value)).run Tryz.prog w by kernel_rfl).trans (load_ptr b 0 a _ w h)
  | 44, _, f, b, a, w, h => (show (method (f + 1) 323 (.pointer (some ⟨b, 0, none⟩)) "Kind").run Tryz.prog w = (do let v ← loadVar 117 ⟨b, 0, none⟩; pure (199, v) : Sem (FuncId × Value)).run Tryz.prog w by kernel_rfl).trans (load_ptr b 0 a _ w h)
  | 45, _, f, b, a, w, h => (show (method (f + 1) 326 (.pointer (some ⟨b, 0, none⟩)) "Kind").run Tryz.prog w = (do let v ← loadVar 117 ⟨b, 0, none⟩; pure (199, v) : Sem (FuncId × Value)).run Tryz.prog w by kernel_rfl).trans (load_ptr b 0 a _ w h)
  | 46, _, f, b, a, w, h => (show (method (f + 1) 329 (.pointer (some ⟨b, 0, none⟩)) "Kind").run Tryz.prog w = (do let v ← loadVar 117 ⟨b, 0, none⟩; pure (199, v) : Sem (FuncId × Value)).run Tryz.prog w by kernel_rfl).trans (load_ptr b 0 a _ w h)
  | 47, _, f, b, a, w, h => (show (method (f + 1) 332 (.pointer (some ⟨b, 0, none⟩)) "Kind").run Tryz.prog w = (do let v ← loadVar 117 ⟨b, 0, none⟩; pure (199, v) : Sem (FuncId × Value)).run Tryz.prog w by kernel_rfl).trans (load_ptr b 0 a _ w h)
  | 48, _, f, b, a, w, h => (show (method (f + 1) 335 (.pointer (some ⟨b, 0, none⟩)) "Kind").run Tryz.prog w = (do let v ← loadVar 117 ⟨b, 0, none⟩; pure (199, v) : Sem (FuncId × Value)).run Tryz.prog w by kernel_rfl).trans (load_ptr b 0 a _ w h)
  | 49, _, f, b, a, w, h => (show (method (f + 1) 338 (.pointer (some ⟨b, 0, none⟩)) "Kind").run Tryz.prog w = (do let v ← loadVar 117 ⟨b, 0, none⟩; pure (199, v) : Sem (FuncId × Value)).run Tryz.prog w by kernel_rfl).trans (load_ptr b 0 a _ w h)
  | 50, _, f, b, a, w, h => (show (method (f + 1) 341 (.pointer (some ⟨b, 0, none⟩)) "Kind").run Tryz.prog w = (do let v ← loadVar 117 ⟨b, 0, none⟩; pure (199, v) : Sem (FuncId × Value)).run Tryz.prog w by kernel_rfl).trans (load_ptr b 0 a _ w h)
  | 51, _, f, b, a, w, h => (show (method (f + 1) 344 (.pointer (some ⟨b, 0, none⟩)) "Kind").run Tryz.prog w = (do let v ← loadVar 117 ⟨b, 0, none⟩; pure (199, v) : Sem (FuncId × Value)).run Tryz.prog w by kernel_rfl).trans (load_ptr b 0 a _ w h)
  | 52, _, f, b, a, w, h => (show (method (f + 1) 347 (.pointer (some ⟨b, 0, none⟩)) "Kind").run Tryz.prog w = (do let v ← loadVar 117 ⟨b, 0, none⟩; pure (199, v) : Sem (FuncId × Value)).run Tryz.prog w by kernel_rfl).trans (load_ptr b 0 a _ w h)
  | 53, _, f, b, a, w, h => (show (method (f + 1) 350 (.pointer (some ⟨b, 0, none⟩)) "Kind").run Tryz.prog w = (do let v ← loadVar 117 ⟨b, 0, none⟩; pure (199, v) : Sem (FuncId × Value)).run Tryz.prog w by kernel_rfl).trans (load_ptr b 0 a _ w h)
  | 54, _, f, b, a, w, h => (show (method (f + 1) 353 (.pointer (some ⟨b, 0, none⟩)) "Kind").run Tryz.prog w = (do let v ← loadVar 117 ⟨b, 0, none⟩; pure (199, v) : Sem (FuncId × Value)).run Tryz.prog w by kernel_rfl).trans (load_ptr b 0 a _ w h)
  | 55, _, f, b, a, w, h => (show (method (f + 1) 356 (.pointer (some ⟨b, 0, none⟩)) "Kind").run Tryz.prog w = (do let v ← loadVar 117 ⟨b, 0, none⟩; pure (199, v) : Sem (FuncId × Value)).run Tryz.prog w by kernel_rfl).trans (load_ptr b 0 a _ w h)
  | 56, _, f, b, a, w, h => (show (method (f + 1) 359 (.pointer (some ⟨b, 0, none⟩)) "Kind").run Tryz.prog w = (do let v ← loadVar 117 ⟨b, 0, none⟩; pure (199, v) : Sem (FuncId × Value)).run Tryz.prog w by kernel_rfl).trans (load_ptr b 0 a _ w h)
  | 57, _, f, b, a, w, h => (show (method (f + 1) 362 (.pointer (some ⟨b, 0, none⟩)) "Kind").run Tryz.prog w = (do let v ← loadVar 117 ⟨b, 0, none⟩; pure (199, v) : Sem (FuncId × Value)).run Tryz.prog w by kernel_rfl).trans (load_ptr b 0 a _ w h)
  | 58, _, f, b, a, w, h => (show (method (f + 1) 365 (.pointer (some ⟨b, 0, none⟩)) "Kind").run Tryz.prog w = (do let v ← loadVar 117 ⟨b, 0, none⟩; pure (199, v) : Sem (FuncId × Value)).run Tryz.prog w by kernel_rfl).trans (load_ptr b 0 a _ w h)
  | 59, _, f, b, a, w, h => (show (method (f + 1) 368 (.pointer (some ⟨b, 0, none⟩)) "Kind").run Tryz.prog w = (do let v ← loadVar 117 ⟨b, 0, none⟩; pure (199, v) : Sem (FuncId × Value)).run Tryz.prog w by kernel_rfl).trans (load_ptr b 0 a _ w h)
  | 60, _, f, b, a, w, h => (show (method (f + 1) 371 (.pointer (some ⟨b, 0, none⟩)) "Kind").run Tryz.prog w = (do let v ← loadVar 117 ⟨b, 0, none⟩; pure (199, v) : Sem (FuncId × Value)).run Tryz.prog w by kernel_rfl).trans (load_ptr b 0 a _ w h)
  | 61, _, f, b, a, w, h => (show (method (f + 1) 374 (.pointer (some ⟨b, 0, none⟩)) "Kind").run Tryz.prog w = (do let v ← loadVar 117 ⟨b, 0, none⟩; pure (199, v) : Sem (FuncId × Value)).run Tryz.prog w by kernel_rfl).trans (load_ptr b 0 a _ w h)
  | 62, _, f, b, a, w, h => (show (method (f + 1) 377 (.pointer (some ⟨b, 0, none⟩)) "Kind").run Tryz.prog w = (do let v ← loadVar 117 ⟨b, 0, none⟩; pure (199, v) : Sem (FuncId × Value)).run Tryz.prog w by kernel_rfl).trans (load_ptr b 0 a _ w h)
  | 63, _, f, b, a, w, h => (show (method (f + 1) 380 (.pointer (some ⟨b, 0, none⟩)) "Kind").run Tryz.prog w = (do let v ← loadVar 117 ⟨b, 0, none⟩; pure (199, v) : Sem (FuncId × Value)).run Tryz.prog w by kernel_rfl).trans (load_ptr b 0 a _ w h)
  | n + 64, h, _, _, _, _, _ => absurd h (by omega)
theorem mw_Name : ∀ k : Nat, k < 64 → ∀ (f b a : Nat) (w : World), w.cell? ⟨b, 0, none⟩ = some (.pointer (some ⟨a, 0, none⟩)) → (method (f + 1) (cid k) (.pointer (some ⟨b, 0, none⟩)) "Name").run Tryz.prog w = .ok (200, .pointer (some ⟨a, 0, none⟩)) w
  | 0, _, f, b, a, w, h => (show (method (f + 1) 383 (.pointer (some ⟨b, 0, none⟩)) "Name").run Tryz.prog w = (do let v ← loadVar 117 ⟨b, 0, none⟩; pure (200, v) : Sem (FuncId × Value)).run Tryz.prog w by kernel_rfl).trans (load_ptr b 0 a _ w h)
  | 1, _, f, b, a, w, h => (show (method (f + 1) 386 (.pointer (some ⟨b, 0, none⟩)) "Name").run Tryz.prog w = (do let v ← loadVar 117 ⟨b, 0, none⟩; pure (200, v) : Sem (FuncId × Value)).run Tryz.prog w by kernel_rfl).trans (load_ptr b 0 a _ w h)
  | 2, _, f, b, a, w, h => (show (method (f + 1) 389 (.pointer (some ⟨b, 0, none⟩)) "Name").run Tryz.prog w = (do let v ← loadVar 117 ⟨b, 0, none⟩; pure (200, v) : Sem (FuncId × Value)).run Tryz.prog w by kernel_rfl).trans (load_ptr b 0 a _ w h)
  | 3, _, f, b, a, w, h => (show (method (f + 1) 392 (.pointer (some ⟨b, 0, none⟩)) "Name").run Tryz.prog w = (do let v ← loadVar 117 ⟨b, 0, none⟩; pure (200, v) : Sem (FuncId × Value)).run Tryz.prog w by kernel_rfl).trans (load_ptr b 0 a _ w h)
  | 4, _, f, b, a, w, h => (show (method (f + 1) 395 (.pointer (some ⟨b, 0, none⟩)) "Name").run Tryz.prog w = (do let v ← loadVar 117 ⟨b, 0, none⟩; pure (200, v) : Sem (FuncId × Value)).run Tryz.prog w by kernel_rfl).trans (load_ptr b 0 a _ w h)
  | 5, _, f, b, a, w, h => (show (method (f + 1) 398 (.pointer (some ⟨b, 0, none⟩)) "Name").run Tryz.prog w = (do let v ← loadVar 117 ⟨b, 0, none⟩; pure (200, v) : Sem (FuncId × Value)).run Tryz.prog w by kernel_rfl).trans (load_ptr b 0 a _ w h)
  | 6, _, f, b, a, w, h => (show (method (f + 1) 401 (.pointer (some ⟨b, 0, none⟩)) "Name").run Tryz.prog w = (do let v ← loadVar 117 ⟨b, 0, none⟩; pure (200, v) : Sem (FuncId × Value)).run Tryz.prog w by kernel_rfl).trans (load_ptr b 0 a _ w h)
  | 7, _, f, b, a, w, h => (show (method (f + 1) 404 (.pointer (some ⟨b, 0, none⟩)) "Name").run Tryz.prog w = (do let v ← loadVar 117 ⟨b, 0, none⟩; pure (200, v) : Sem (FuncId × Value)).run Tryz.prog w by kernel_rfl).trans (load_ptr b 0 a _ w h)
  | 8, _, f, b, a, w, h => (show (method (f + 1) 407 (.pointer (some ⟨b, 0, none⟩)) "Name").run Tryz.prog w = (do let v ← loadVar 117 ⟨b, 0, none⟩; pure (200, v) : Sem (FuncId × Value)).run Tryz.prog w by kernel_rfl).trans (load_ptr b 0 a _ w h)
  | 9, _, f, b, a, w, h => (show (method (f + 1) 410 (.pointer (some ⟨b, 0, none⟩)) "Name").run Tryz.prog w = (do let v ← loadVar 117 ⟨b, 0, none⟩; pure (200, v) : Sem (FuncId × Value)).run Tryz.prog w by kernel_rfl).trans (load_ptr b 0 a _ w h)
  | 10, _, f, b, a, w, h => (show (method (f + 1) 413 (.pointer (some ⟨b, 0, none⟩)) "Name").run Tryz.prog w = (do let v ← loadVar 117 ⟨b, 0, none⟩; pure (200, v) : Sem (FuncId × Value)).run Tryz.prog w by kernel_rfl).trans (load_ptr b 0 a _ w h)
  | 11, _, f, b, a, w, h => (show (method (f + 1) 416 (.pointer (some ⟨b, 0, none⟩)) "Name").run Tryz.prog w = (do let v ← loadVar 117 ⟨b, 0, none⟩; pure (200, v) : Sem (FuncId × Value)).run Tryz.prog w by kernel_rfl).trans (load_ptr b 0 a _ w h)
  | 12, _, f, b, a, w, h => (show (method (f + 1) 419 (.pointer (some ⟨b, 0, none⟩)) "Name").run Tryz.prog w = (do let v ← loadVar 117 ⟨b, 0, none⟩; pure (200, v) : Sem (FuncId × Value)).run Tryz.prog w by kernel_rfl).trans (load_ptr b 0 a _ w h)
  | 13, _, f, b, a, w, h => (show (method (f + 1) 422 (.pointer (some ⟨b, 0, none⟩)) "Name").run Tryz.prog w = (do let v ← loadVar 117 ⟨b, 0, none⟩; pure (200, v) : Sem (FuncId × Value)).run Tryz.prog w by kernel_rfl).trans (load_ptr b 0 a _ w h)
  | 14, _, f, b, a, w, h => (show (method (f + 1) 425 (.pointer (some ⟨b, 0, none⟩)) "Name").run Tryz.prog w = (do let v ← loadVar 117 ⟨b, 0, none⟩; pure (200, v) : Sem (FuncId × Value)).run Tryz.prog w by kernel_rfl).trans (load_ptr b 0 a _ w h)
  | 15, _, f, b, a, w, h => (show (method (f + 1) 428 (.pointer (some ⟨b, 0, none⟩)) "Name").run Tryz.prog w = (do let v ← loadVar 117 ⟨b, 0, none⟩; pure (200, v) : Sem (FuncId × Value)).run Tryz.prog w by kernel_rfl).trans (load_ptr b 0 a _ w h)
  | 16, _, f, b, a, w, h => (show (method (f + 1) 238 (.pointer (some ⟨b, 0, none⟩)) "Name").run Tryz.prog w = (do let v ← loadVar 117 ⟨b, 0, none⟩; pure (200, v) : Sem (FuncId × Value)).run Tryz.prog w by kernel_rfl).trans (load_ptr b 0 a _ w h)
  | 17, _, f, b, a, w, h => (show (method (f + 1) 241 (.pointer (some ⟨b, 0, none⟩)) "Name").run Tryz.prog w = (do let v ← loadVar 117 ⟨b, 0, none⟩; pure (200, v) : Sem (FuncId × Value)).run Tryz.prog w by kernel_rfl).trans (load_ptr b 0 a _ w h)
  | 18, _, f, b, a, w, h => (show (method (f + 1) 244 (.pointer (some ⟨b, 0, none⟩)) "Name").run Tryz.prog w = (do let v ← loadVar 117 ⟨b, 0, none⟩; pure (200, v) : Sem (FuncId × Value)).run Tryz.prog w by kernel_rfl).trans (load_ptr b 0 a _ w h)
  | 19, _, f, b, a, w, h => (show (method (f + 1) 247 (.pointer (some ⟨b, 0, none⟩)) "Name").run Tryz.prog w = (do let v ← loadVar 117 ⟨b, 0, none⟩; pure (200, v) : Sem (FuncId × Value)).run Tryz.prog w by kernel_rfl).trans (load_ptr b 0 a _ w h)
  | 20, _, f, b, a, w, h => (show (method (f + 1) 250 (.pointer (some ⟨b, 0, none⟩)) "Name").run Tryz.prog w = (do let v ← loadVar 117 ⟨b, 0, none⟩; pure (200, v) : Sem (FuncId × Value)).run Tryz.prog w by kernel_rfl).trans (load_ptr b 0 a _ w h)
  | 21, _, f, b, a, w, h => (show (method (f + 1) 253 (.pointer (some ⟨b, 0, none⟩)) "Name").run Tryz.prog w = (do let v ← loadVar 117 ⟨b, 0, none⟩; pure (200, v) : Sem (FuncId × Value)).run Tryz.prog w by kernel_rfl).trans (load_ptr b 0 a _ w h)
  | 22, _, f, b, a, w, h => (show (method (f + 1) 256 (.pointer (some ⟨b, 0, none⟩)) "Name").run Tryz.prog w = (do let v ← loadVar 117 ⟨b, 0, none⟩; pure (200, v) : Sem (FuncId × Value)).run Tryz.prog w by kernel_rfl).trans (load_ptr b 0 a _ w h)
  | 23, _, f, b, a, w, h => (show (method (f + 1) 259 (.pointer (some ⟨b, 0, none⟩)) "Name").run Tryz.prog w = (do let v ← loadVar 117 ⟨b, 0, none⟩; pure (200, v) : Sem (FuncId × Value)).run Tryz.prog w by kernel_rfl).trans (load_ptr b 0 a _ w h)
  | 24, _, f, b, a, w, h => (show (method (f + 1) 262 (.pointer (some ⟨b, 0, none⟩)) "Name").run Tryz.prog w = (do let v ← loadVar 117 ⟨b, 0, none⟩; pure (200, v) : Sem (FuncId × Value)).run Tryz.prog w by kernel_rfl).trans (load_ptr b 0 a _ w h)
  | 25, _, f, b, a, w, h => (show (method (f + 1) 265 (.pointer (some ⟨b, 0, none⟩)) "Name").run Tryz.prog w = (do let v ← loadVar 117 ⟨b, 0, none⟩; pure (200, v) : Sem (FuncId × Value)).run Tryz.prog w by kernel_rfl).trans (load_ptr b 0 a _ w h)
  | 26, _, f, b, a, w, h => (show (method (f + 1) 268 (.pointer (some ⟨b, 0, none⟩)) "Name").run Tryz.prog w = (do let v ← loadVar 117 ⟨b, 0, none⟩; pure (200, v) : Sem (FuncId × Value)).run Tryz.prog w by kernel_rfl).trans (load_ptr b 0 a _ w h)
  | 27, _, f, b, a, w, h => (show (method (f + 1) 271 (.pointer (some ⟨b, 0, none⟩)) "Name").run Tryz.prog w = (do let v ← loadVar 117 ⟨b, 0, none⟩; pure (200, v) : Sem (FuncId × Value)).run Tryz.prog w by kernel_rfl).trans (load_ptr b 0 a _ w h)
  | 28, _, f, b, a, w, h => (show (method (f + 1) 274 (.pointer (some ⟨b, 0, none⟩)) "Name").run Tryz.prog w = (do let v ← loadVar 117 ⟨b, 0, none⟩; pure (200, v) : Sem (FuncId × Value)).run Tryz.prog w by kernel_rfl).trans (load_ptr b 0 a _ w h)
  | 29, _, f, b, a, w, h => (show (method (f + 1) 277 (.pointer (some ⟨b, 0, none⟩)) "Name").run Tryz.prog w = (do let v ← loadVar 117 ⟨b, 0, none⟩; pure (200, v) : Sem (FuncId × Value)).run Tryz.prog w by kernel_rfl).trans (load_ptr b 0 a _ w h)
  | 30, _, f, b, a, w, h => (show (method (f + 1) 280 (.pointer (some ⟨b, 0, none⟩)) "Name").run Tryz.prog w = (do let v ← loadVar 117 ⟨b, 0, none⟩; pure (200, v) : Sem (FuncId × Value)).run Tryz.prog w by kernel_rfl).trans (load_ptr b 0 a _ w h)
  | 31, _, f, b, a, w, h => (show (method (f + 1) 283 (.pointer (some ⟨b, 0, none⟩)) "Name").run Tryz.prog w = (do let v ← loadVar 117 ⟨b, 0, none⟩; pure (200, v) : Sem (FuncId × Value)).run Tryz.prog w by kernel_rfl).trans (load_ptr b 0 a _ w h)
  | 32, _, f, b, a, w, h => (show (method (f + 1) 287 (.pointer (some ⟨b, 0, none⟩)) "Name").run Tryz.prog w = (do let v ← loadVar 117 ⟨b, 0, none⟩; pure (200, v) : Sem (FuncId × Value)).run Tryz.prog w by kernel_rfl).trans (load_ptr b 0 a _ w h)
  | 33, _, f, b, a, w, h => (show (method (f + 1) 290 (.pointer (some ⟨b, 0, none⟩)) "Name").run Tryz.prog w = (do let v ← loadVar 117 ⟨b, 0, none⟩; pure (200, v) : Sem (FuncId × Value)).run Tryz.prog w by kernel_rfl).trans (load_ptr b 0 a _ w h)
  | 34, _, f, b, a, w, h => (show (method (f + 1) 293 (.pointer (some ⟨b, 0, none⟩)) "Name").run Tryz.prog w = (do let v ← loadVar 117 ⟨b, 0, none⟩; pure (200, v) : Sem (FuncId × Value)).run Tryz.prog w by kernel_rfl).trans (load_ptr b 0 a _ w h)
  | 35, _, f, b, a, w, h => (show (method (f + 1) 296 (.pointer (some ⟨b, 0, none⟩)) "Name").run Tryz.prog w = (do let v ← loadVar 117 ⟨b, 0, none⟩; pure (200, v) : Sem (FuncId × Value)).run Tryz.prog w by kernel_rfl).trans (load_ptr b 0 a _ w h)
  | 36, _, f, b, a, w, h => (show (method (f + 1) 299 (.pointer (some ⟨b, 0, none⟩)) "Name").run Tryz.prog w = (do let v ← loadVar 117 ⟨b, 0, none⟩; pure (200, v) : Sem (FuncId × Value)).run Tryz.prog w by kernel_rfl).trans (load_ptr b 0 a _ w h)
  | 37, _, f, b, a, w, h => (show (method (f + 1) 302 (.pointer (some ⟨b, 0, none⟩)) "Name").run Tryz.prog w = (do let v ← loadVar 117 ⟨b, 0, none⟩; pure (200, v) : Sem (FuncId × Value)).run Tryz.prog w by kernel_rfl).trans (load_ptr b 0 a _ w h)
  | 38, _, f, b, a, w, h => (show (method (f + 1) 305 (.pointer (some ⟨b, 0, none⟩)) "Name").run Tryz.prog w = (do let v ← loadVar 117 ⟨b, 0, none⟩; pure (200, v) : Sem (FuncId × Value)).run Tryz.prog w by kernel_rfl).trans (load_ptr b 0 a _ w h)
  | 39, _, f, b, a, w, h => (show (method (f + 1) 308 (.pointer (some ⟨b, 0, none⟩)) "Name").run Tryz.prog w = (do let v ← loadVar 117 ⟨b, 0, none⟩; pure (200, v) : Sem (FuncId × Value)).run Tryz.prog w by kernel_rfl).trans (load_ptr b 0 a _ w h)
  | 40, _, f, b, a, w, h => (show (method (f + 1) 311 (.pointer (some ⟨b, 0, none⟩)) "Name").run Tryz.prog w = (do let v ← loadVar 117 ⟨b, 0, none⟩; pure (200, v) : Sem (FuncId × Value)).run Tryz.prog w by kernel_rfl).trans (load_ptr b 0 a _ w h)
  | 41, _, f, b, a, w, h => (show (method (f + 1) 314 (.pointer (some ⟨b, 0, none⟩)) "Name").run Tryz.prog w = (do let v ← loadVar 117 ⟨b, 0, none⟩; pure (200, v) : Sem (FuncId × Value)).run Tryz.prog w by kernel_rfl).trans (load_ptr b 0 a _ w h)
  | 42, _, f, b, a, w, h => (show (method (f + 1) 317 (.pointer (some ⟨b, 0, none⟩)) "Name").run Tryz.prog w = (do let v ← loadVar 117 ⟨b, 0, none⟩; pure (200, v) : Sem (FuncId × Value)).run Tryz.prog w by kernel_rfl).trans (load_ptr b 0 a _ w h)
  | 43, _, f, b, a, w, h => (show (method (f + 1) 320 (.pointer (some ⟨b, 0, none⟩)) "Name").run Tryz.prog w = (do let v ← loadVar 117 ⟨b, 0, none⟩; pure (200, v) : Sem (FuncId × Value)).run Tryz.prog w by kernel_rfl).trans (load_ptr b 0 a _ w h)
  | 44, _, f, b, a, w, h => (show (method (f + 1) 323 (.pointer (some ⟨b, 0, none⟩)) "Name").run Tryz.prog w = (do let v ← loadVar 117 ⟨b, 0, none⟩; pure (200, v) : Sem (FuncId × Value)).run Tryz.prog w by kernel_rfl).trans (load_ptr b 0 a _ w h)
  | 45, _, f, b, a, w, h => (show (method (f + 1) 326 (.pointer (some ⟨b, 0, none⟩)) "Name").run Tryz.prog w = (do let v ← loadVar 117 ⟨b, 0, none⟩; pure (200, v) : Sem (FuncId × Value)).run Tryz.prog w by kernel_rfl).trans (load_ptr b 0 a _ w h)
  | 46, _, f, b, a, w, h => (show (method (f + 1) 329 (.pointer (some ⟨b, 0, none⟩)) "Name").run Tryz.prog w = (do let v ← loadVar 117 ⟨b, 0, none⟩; pure (200, v) : Sem (FuncId × Value)).run Tryz.prog w by kernel_rfl).trans (load_ptr b 0 a _ w h)
  | 47, _, f, b, a, w, h => (show (method (f + 1) 332 (.pointer (some ⟨b, 0, none⟩)) "Name").run Tryz.prog w = (do let v ← loadVar 117 ⟨b, 0, none⟩; pure (200, v) : Sem (FuncId × Value)).run Tryz.prog w by kernel_rfl).trans (load_ptr b 0 a _ w h)
  | 48, _, f, b, a, w, h => (show (method (f + 1) 335 (.pointer (some ⟨b, 0, none⟩)) "Name").run Tryz.prog w = (do let v ← loadVar 117 ⟨b, 0, none⟩; pure (200, v) : Sem (FuncId × Value)).run Tryz.prog w by kernel_rfl).trans (load_ptr b 0 a _ w h)
  | 49, _, f, b, a, w, h => (show (method (f + 1) 338 (.pointer (some ⟨b, 0, none⟩)) "Name").run Tryz.prog w = (do let v ← loadVar 117 ⟨b, 0, none⟩; pure (200, v) : Sem (FuncId × Value)).run Tryz.prog w by kernel_rfl).trans (load_ptr b 0 a _ w h)
  | 50, _, f, b, a, w, h => (show (method (f + 1) 341 (.pointer (some ⟨b, 0, none⟩)) "Name").run Tryz.prog w = (do let v ← loadVar 117 ⟨b, 0, none⟩; pure (200, v) : Sem (FuncId × Value)).run Tryz.prog w by kernel_rfl).trans (load_ptr b 0 a _ w h)
  | 51, _, f, b, a, w, h => (show (method (f + 1) 344 (.pointer (some ⟨b, 0, none⟩)) "Name").run Tryz.prog w = (do let v ← loadVar 117 ⟨b, 0, none⟩; pure (200, v) : Sem (FuncId × Value)).run Tryz.prog w by kernel_rfl).trans (load_ptr b 0 a _ w h)
  | 52, _, f, b, a, w, h => (show (method (f + 1) 347 (.pointer (some ⟨b, 0, none⟩)) "Name").run Tryz.prog w = (do let v ← loadVar 117 ⟨b, 0, none⟩; pure (200, v) : Sem (FuncId × Value)).run Tryz.prog w by kernel_rfl).trans (load_ptr b 0 a _ w h)
  | 53, _, f, b, a, w, h => (show (method (f + 1) 350 (.pointer (some ⟨b, 0, none⟩)) "Name").run Tryz.prog w = (do let v ← loadVar 117 ⟨b, 0, none⟩; pure (200, v) : Sem (FuncId × Value)).run Tryz.prog w by kernel_rfl).trans (load_ptr b 0 a _ w h)
  | 54, _, f, b, a, w, h => (show (method (f + 1) 353 (.pointer (some ⟨b, 0, none⟩)) "Name").run Tryz.prog w = (do let v ← loadVar 117 ⟨b, 0, none⟩; pure (200, v) : Sem (FuncId × Value)).run Tryz.prog w by kernel_rfl).trans (load_ptr b 0 a _ w h)
  | 55, _, f, b, a, w, h => (show (method (f + 1) 356 (.pointer (some ⟨b, 0, none⟩)) "Name").run Tryz.prog w = (do let v ← loadVar 117 ⟨b, 0, none⟩; pure (200, v) : Sem (FuncId × Value)).run Tryz.prog w by kernel_rfl).trans (load_ptr b 0 a _ w h)
  | 56, _, f, b, a, w, h => (show (method (f + 1) 359 (.pointer (some ⟨b, 0, none⟩)) "Name").run Tryz.prog w = (do let v ← loadVar 117 ⟨b, 0, none⟩; pure (200, v) : Sem (FuncId × Value)).run Tryz.prog w by kernel_rfl).trans (load_ptr b 0 a _ w h)
  | 57, _, f, b, a, w, h => (show (method (f + 1) 362 (.pointer (some ⟨b, 0, none⟩)) "Name").run Tryz.prog w = (do let v ← loadVar 117 ⟨b, 0, none⟩; pure (200, v) : Sem (FuncId × Value)).run Tryz.prog w by kernel_rfl).trans (load_ptr b 0 a _ w h)
  | 58, _, f, b, a, w, h => (show (method (f + 1) 365 (.pointer (some ⟨b, 0, none⟩)) "Name").run Tryz.prog w = (do let v ← loadVar 117 ⟨b, 0, none⟩; pure (200, v) : Sem (FuncId × Value)).run Tryz.prog w by kernel_rfl).trans (load_ptr b 0 a _ w h)
  | 59, _, f, b, a, w, h => (show (method (f + 1) 368 (.pointer (some ⟨b, 0, none⟩)) "Name").run Tryz.prog w = (do let v ← loadVar 117 ⟨b, 0, none⟩; pure (200, v) : Sem (FuncId × Value)).run Tryz.prog w by kernel_rfl).trans (load_ptr b 0 a _ w h)
  | 60, _, f, b, a, w, h => (show (method (f + 1) 371 (.pointer (some ⟨b, 0, none⟩)) "Name").run Tryz.prog w = (do let v ← loadVar 117 ⟨b, 0, none⟩; pure (200, v) : Sem (FuncId × Value)).run Tryz.prog w by kernel_rfl).trans (load_ptr b 0 a _ w h)
  | 61, _, f, b, a, w, h => (show (method (f + 1) 374 (.pointer (some ⟨b, 0, none⟩)) "Name").run Tryz.prog w = (do let v ← loadVar 117 ⟨b, 0, none⟩; pure (200, v) : Sem (FuncId × Value)).run Tryz.prog w by kernel_rfl).trans (load_ptr b 0 a _ w h)
  | 62, _, f, b, a, w, h => (show (method (f + 1) 377 (.pointer (some ⟨b, 0, none⟩)) "Name").run Tryz.prog w = (do let v ← loadVar 117 ⟨b, 0, none⟩; pure (200, v) : Sem (FuncId × Value)).run Tryz.prog w by kernel_rfl).trans (load_ptr b 0 a _ w h)
  | 63, _, f, b, a, w, h => (show (method (f + 1) 380 (.pointer (some ⟨b, 0, none⟩)) "Name").run Tryz.prog w = (do let v ← loadVar 117 ⟨b, 0, none⟩; pure (200, v) : Sem (FuncId × Value)).run Tryz.prog w by kernel_rfl).trans (load_ptr b 0 a _ w h)
  | n + 64, h, _, _, _, _, _ => absurd h (by omega)
theorem mw_Unwrap : ∀ k : Nat, k < 64 → ∀ (f b a : Nat) (w : World), w.cell? ⟨b, 0, none⟩ = some (.pointer (some ⟨a, 0, none⟩)) → (method (f + 1) (cid k) (.pointer (some ⟨b, 0, none⟩)) "Unwrap").run Tryz.prog w = .ok (201, .pointer (some ⟨a, 0, none⟩)) w
  | 0, _, f, b, a, w, h => (show (method (f + 1) 383 (.pointer (some ⟨b, 0, none⟩)) "Unwrap").run Tryz.prog w = (do let v ← loadVar 117 ⟨b, 0, none⟩; pure (201, v) : Sem (FuncId × Value)).run Tryz.prog w by kernel_rfl).trans (load_ptr b 0 a _ w h)
  | 1, _, f, b, a, w, h => (show (method (f + 1) 386 (.pointer (some ⟨b, 0, none⟩)) "Unwrap").run Tryz.prog w = (do let v ← loadVar 117 ⟨b, 0, none⟩; pure (201, v) : Sem (FuncId × Value)).run Tryz.prog w by kernel_rfl).trans (load_ptr b 0 a _ w h)
  | 2, _, f, b, a, w, h => (show (method (f + 1) 389 (.pointer (some ⟨b, 0, none⟩)) "Unwrap").run Tryz.prog w = (do let v ← loadVar 117 ⟨b, 0, none⟩; pure (201, v) : Sem (FuncId × Value)).run Tryz.prog w by kernel_rfl).trans (load_ptr b 0 a _ w h)
  | 3, _, f, b, a, w, h => (show (method (f + 1) 392 (.pointer (some ⟨b, 0, none⟩)) "Unwrap").run Tryz.prog w = (do let v ← loadVar 117 ⟨b, 0, none⟩; pure (201, v) : Sem (FuncId × Value)).run Tryz.prog w by kernel_rfl).trans (load_ptr b 0 a _ w h)
  | 4, _, f, b, a, w, h => (show (method (f + 1) 395 (.pointer (some ⟨b, 0, none⟩)) "Unwrap").run Tryz.prog w = (do let v ← loadVar 117 ⟨b, 0, none⟩; pure (201, v) : Sem (FuncId × Value)).run Tryz.prog w by kernel_rfl).trans (load_ptr b 0 a _ w h)
  | 5, _, f, b, a, w, h => (show (method (f + 1) 398 (.pointer (some ⟨b, 0, none⟩)) "Unwrap").run Tryz.prog w = (do let v ← loadVar 117 ⟨b, 0, none⟩; pure (201, v) : Sem (FuncId × Value)).run Tryz.prog w by kernel_rfl).trans (load_ptr b 0 a _ w h)
  | 6, _, f, b, a, w, h => (show (method (f + 1) 401 (.pointer (some ⟨b, 0, none⟩)) "Unwrap").run Tryz.prog w = (do let v ← loadVar 117 ⟨b, 0, none⟩; pure (201, v) : Sem (FuncId × Value)).run Tryz.prog w by kernel_rfl).trans (load_ptr b 0 a _ w h)
  | 7, _, f, b, a, w, h => (show (method (f + 1) 404 (.pointer (some ⟨b, 0, none⟩)) "Unwrap").run Tryz.prog w = (do let v ← loadVar 117 ⟨b, 0, none⟩; pure (201, v) : Sem (FuncId × Value)).run Tryz.prog w by kernel_rfl).trans (load_ptr b 0 a _ w h)
  | 8, _, f, b, a, w, h => (show (method (f + 1) 407 (.pointer (some ⟨b, 0, none⟩)) "Unwrap").run Tryz.prog w = (do let v ← loadVar 117 ⟨b, 0, none⟩; pure (201, v) : Sem (FuncId × Value)).run Tryz.prog w by kernel_rfl).trans (load_ptr b 0 a _ w h)
  | 9, _, f, b, a, w, h => (show (method (f + 1) 410 (.pointer (some ⟨b, 0, none⟩)) "Unwrap").run Tryz.prog w = (do let v ← loadVar 117 ⟨b, 0, none⟩; pure (201, v) : Sem (FuncId × Value)).run Tryz.prog w by kernel_rfl).trans (load_ptr b 0 a _ w h)
  | 10, _, f, b, a, w, h => (show (method (f + 1) 413 (.pointer (some ⟨b, 0, none⟩)) "Unwrap").run Tryz.prog w = (do let v ← loadVar 117 ⟨b, 0, none⟩; pure (201, v) : Sem (FuncId × Value)).run Tryz.prog w by kernel_rfl).trans (load_ptr b 0 a _ w h)
  | 11, _, f, b, a, w, h => (show (method (f + 1) 416 (.pointer (some ⟨b, 0, none⟩)) "Unwrap").run Tryz.prog w = (do let v ← loadVar 117 ⟨b, 0, none⟩; pure (201, v) : Sem (FuncId × Value)).run Tryz.prog w by kernel_rfl).trans (load_ptr b 0 a _ w h)
  | 12, _, f, b, a, w, h => (show (method (f + 1) 419 (.pointer (some ⟨b, 0, none⟩)) "Unwrap").run Tryz.prog w = (do let v ← loadVar 117 ⟨b, 0, none⟩; pure (201, v) : Sem (FuncId × Value)).run Tryz.prog w by kernel_rfl).trans (load_ptr b 0 a _ w h)
  | 13, _, f, b, a, w, h => (show (method (f + 1) 422 (.pointer (some ⟨b, 0, none⟩)) "Unwrap").run Tryz.prog w = (do let v ← loadVar 117 ⟨b, 0, none⟩; pure (201, v) : Sem (FuncId × Value)).run Tryz.prog w by kernel_rfl).trans (load_ptr b 0 a _ w h)
  | 14, _, f, b, a, w, h => (show (method (f + 1) 425 (.pointer (some ⟨b, 0, none⟩)) "Unwrap").run Tryz.prog w = (do let v ← loadVar 117 ⟨b, 0, none⟩; pure (201, v) : Sem (FuncId × Value)).run Tryz.prog w by kernel_rfl).trans (load_ptr b 0 a _ w h)
  | 15, _, f, b, a, w, h => (show (method (f + 1) 428 (.pointer (some ⟨b, 0, none⟩)) "Unwrap").run Tryz.prog w = (do let v ← loadVar 117 ⟨b, 0, none⟩; pure (201, v) : Sem (FuncId × Value)).run Tryz.prog w by kernel_rfl).trans (load_ptr b 0 a _ w h)
  | 16, _, f, b, a, w, h => (show (method (f + 1) 238 (.pointer (some ⟨b, 0, none⟩)) "Unwrap").run Tryz.prog w = (do let v ← loadVar 117 ⟨b, 0, none⟩; pure (201, v) : Sem (FuncId × Value)).run Tryz.prog w by kernel_rfl).trans (load_ptr b 0 a _ w h)
  | 17, _, f, b, a, w, h => (show (method (f + 1) 241 (.pointer (some ⟨b, 0, none⟩)) "Unwrap").run Tryz.prog w = (do let v ← loadVar 117 ⟨b, 0, none⟩; pure (201, v) : Sem (FuncId × Value)).run Tryz.prog w by kernel_rfl).trans (load_ptr b 0 a _ w h)
  | 18, _, f, b, a, w, h => (show (method (f + 1) 244 (.pointer (some ⟨b, 0, none⟩)) "Unwrap").run Tryz.prog w = (do let v ← loadVar 117 ⟨b, 0, none⟩; pure (201, v) : Sem (FuncId × Value)).run Tryz.prog w by kernel_rfl).trans (load_ptr b 0 a _ w h)
  | 19, _, f, b, a, w, h => (show (method (f + 1) 247 (.pointer (some ⟨b, 0, none⟩)) "Unwrap").run Tryz.prog w = (do let v ← loadVar 117 ⟨b, 0, none⟩; pure (201, v) : Sem (FuncId × Value)).run Tryz.prog w by kernel_rfl).trans (load_ptr b 0 a _ w h)
  | 20, _, f, b, a, w, h => (show (method (f + 1) 250 (.pointer (some ⟨b, 0, none⟩)) "Unwrap").run Tryz.prog w = (do let v ← loadVar 117 ⟨b, 0, none⟩; pure (201, v) : Sem (FuncId × Value)).run Tryz.prog w by kernel_rfl).trans (load_ptr b 0 a _ w h)
  | 21, _, f, b, a, w, h => (show (method (f + 1) 253 (.pointer (some ⟨b, 0, none⟩)) "Unwrap").run Tryz.prog w = (do let v ← loadVar 117 ⟨b, 0, none⟩; pure (201, v) : Sem (FuncId × Value)).run Tryz.prog w by kernel_rfl).trans (load_ptr b 0 a _ w h)
  | 22, _, f, b, a, w, h => (show (method (f + 1) 256 (.pointer (some ⟨b, 0, none⟩)) "Unwrap").run Tryz.prog w = (do let v ← loadVar 117 ⟨b, 0, none⟩; pure (201, v) : Sem (FuncId × Value)).run Tryz.prog w by kernel_rfl).trans (load_ptr b 0 a _ w h)
  | 23, _, f, b, a, w, h => (show (method (f + 1) 259 (.pointer (some ⟨b, 0, none⟩)) "Unwrap").run Tryz.prog w = (do let v ← loadVar 117 ⟨b, 0, none⟩; pure (201, v) : Sem (FuncId × Value)).run Tryz.prog w by kernel_rfl).trans (load_ptr b 0 a _ w h)
  | 24, _, f, b, a, w, h => (show (method (f + 1) 262 (.pointer (some ⟨b, 0, none⟩)) "Unwrap").run Tryz.prog w = (do let v ← loadVar 117 ⟨b, 0, none⟩; pure (201, v) : Sem (FuncId × Value)).run Tryz.prog w by kernel_rfl).trans (load_ptr b 0 a _ w h)
  | 25, _, f, b, a, w, h => (show (method (f + 1) 265 (.pointer (some ⟨b, 0, none⟩)) "Unwrap").run Tryz.prog w = (do let v ← loadVar 117 ⟨b, 0, none⟩; pure (201, v) : Sem (FuncId × Value)).run Tryz.prog w by kernel_rfl).trans (load_ptr b 0 a _ w h)
  | 26, _, f, b, a, w, h => (show (method (f + 1) 268 (.pointer (some ⟨b, 0, none⟩)) "Unwrap").run Tryz.prog w = (do let v ← loadVar 117 ⟨b, 0, none⟩; pure (201, v) : Sem (FuncId × Value)).run Tryz.prog w by kernel_rfl).trans (load_ptr b 0 a _ w h)
  | 27, _, f, b, a, w, h => (show (method (f + 1) 271 (.pointer (some ⟨b, 0, none⟩)) "Unwrap").run Tryz.prog w = (do let v ← loadVar 117 ⟨b, 0, none⟩; pure (201, v) : Sem (FuncId × Value)).run Tryz.prog w by kernel_rfl).trans (load_ptr b 0 a _ w h)
  | 28, _, f, b, a, w, h => (show (method (f + 1) 274 (.pointer (some ⟨b, 0, none⟩)) "Unwrap").run Tryz.prog w = (do let v ← loadVar 117 ⟨b, 0, none⟩; pure (201, v) : Sem (FuncId × Value)).run Tryz.prog w by kernel_rfl).trans (load_ptr b 0 a _ w h)
  | 29, _, f, b, a, w, h => (show (method (f + 1) 277 (.pointer (some ⟨b, 0, none⟩)) "Unwrap").run Tryz.prog w = (do let v ← loadVar 117 ⟨b, 0, none⟩; pure (201, v) : Sem (FuncId × Value)).run Tryz.prog w by kernel_rfl).trans (load_ptr b 0 a _ w h)
  | 30, _, f, b, a, w, h => (show (method (f + 1) 280 (.pointer (some ⟨b, 0, none⟩)) "Unwrap").run Tryz.prog w = (do let v ← loadVar 117 ⟨b, 0, none⟩; pure (201, v) : Sem (FuncId × Value)).run Tryz.prog w by kernel_rfl).trans (load_ptr b 0 a _ w h)
  | 31, _, f, b, a, w, h => (show (method (f + 1) 283 (.pointer (some ⟨b, 0, none⟩)) "Unwrap").run Tryz.prog w = (do let v ← loadVar 117 ⟨b, 0, none⟩; pure (201, v) : Sem (FuncId × Value)).run Tryz.prog w by kernel_rfl).trans (load_ptr b 0 a _ w h)
  | 32, _, f, b, a, w, h => (show (method (f + 1) 287 (.pointer (some ⟨b, 0, none⟩)) "Unwrap").run Tryz.prog w = (do let v ← loadVar 117 ⟨b, 0, none⟩; pure (201, v) : Sem (FuncId × Value)).run Tryz.prog w by kernel_rfl).trans (load_ptr b 0 a _ w h)
  | 33, _, f, b, a, w, h => (show (method (f + 1) 290 (.pointer (some ⟨b, 0, none⟩)) "Unwrap").run Tryz.prog w = (do let v ← loadVar 117 ⟨b, 0, none⟩; pure (201, v) : Sem (FuncId × Value)).run Tryz.prog w by kernel_rfl).trans (load_ptr b 0 a _ w h)
  | 34, _, f, b, a, w, h => (show (method (f + 1) 293 (.pointer (some ⟨b, 0, none⟩)) "Unwrap").run Tryz.prog w = (do let v ← loadVar 117 ⟨b, 0, none⟩; pure (201, v) : Sem (FuncId × Value)).run Tryz.prog w by kernel_rfl).trans (load_ptr b 0 a _ w h)
  | 35, _, f, b, a, w, h => (show (method (f + 1) 296 (.pointer (some ⟨b, 0, none⟩)) "Unwrap").run Tryz.prog w = (do let v ← loadVar 117 ⟨b, 0, none⟩; pure (201, v) : Sem (FuncId × Value)).run Tryz.prog w by kernel_rfl).trans (load_ptr b 0 a _ w h)
  | 36, _, f, b, a, w, h => (show (method (f + 1) 299 (.pointer (some ⟨b, 0, none⟩)) "Unwrap").run Tryz.prog w = (do let v ← loadVar 117 ⟨b, 0, none⟩; pure (201, v) : Sem (FuncId × Value)).run Tryz.prog w by kernel_rfl).trans (load_ptr b 0 a _ w h)
  | 37, _, f, b, a, w, h => (show (method (f + 1) 302 (.pointer (some ⟨b, 0, none⟩)) "Unwrap").run Tryz.prog w = (do let v ← loadVar 117 ⟨b, 0, none⟩; pure (201, v) : Sem (FuncId × Value)).run Tryz.prog w by kernel_rfl).trans (load_ptr b 0 a _ w h)
  | 38, _, f, b, a, w, h => (show (method (f + 1) 305 (.pointer (some ⟨b, 0, none⟩)) "Unwrap").run Tryz.prog w = (do let v ← loadVar 117 ⟨b, 0, none⟩; pure (201, v) : Sem (FuncId × Value)).run Tryz.prog w by kernel_rfl).trans (load_ptr b 0 a _ w h)
  | 39, _, f, b, a, w, h => (show (method (f + 1) 308 (.pointer (some ⟨b, 0, none⟩)) "Unwrap").run Tryz.prog w = (do let v ← loadVar 117 ⟨b, 0, none⟩; pure (201, v) : Sem (FuncId × Value)).run Tryz.prog w by kernel_rfl).trans (load_ptr b 0 a _ w h)
  | 40, _, f, b, a, w, h => (show (method (f + 1) 311 (.pointer (some ⟨b, 0, none⟩)) "Unwrap").run Tryz.prog w = (do let v ← loadVar 117 ⟨b, 0, none⟩; pure (201, v) : Sem (FuncId × Value)).run Tryz.prog w by kernel_rfl).trans (load_ptr b 0 a _ w h)
  | 41, _, f, b, a, w, h => (show (method (f + 1) 314 (.pointer (some ⟨b, 0, none⟩)) "Unwrap").run Tryz.prog w = (do let v ← loadVar 117 ⟨b, 0, none⟩; pure (201, v) : Sem (FuncId × Value)).run Tryz.prog w by kernel_rfl).trans (load_ptr b 0 a _ w h)
  | 42, _, f, b, a, w, h => (show (method (f + 1) 317 (.pointer (some ⟨b, 0, none⟩)) "Unwrap").run Tryz.prog w = (do let v ← loadVar 117 ⟨b, 0, none⟩; pure (201, v) : Sem (FuncId × Value)).run Tryz.prog w by kernel_rfl).trans (load_ptr b 0 a _ w h)
  | 43, _, f, b, a, w, h => (show (method (f + 1) 320 (.pointer (some ⟨b, 0, none⟩)) "Unwrap").run Tryz.prog w = (do let v ← loadVar 117 ⟨b, 0, none⟩; pure (201, v) : Sem (FuncId × Value)).run Tryz.prog w by kernel_rfl).trans (load_ptr b 0 a _ w h)
  | 44, _, f, b, a, w, h => (show (method (f + 1) 323 (.pointer (some ⟨b, 0, none⟩)) "Unwrap").run Tryz.prog w = (do let v ← loadVar 117 ⟨b, 0, none⟩; pure (201, v) : Sem (FuncId × Value)).run Tryz.prog w by kernel_rfl).trans (load_ptr b 0 a _ w h)
  | 45, _, f, b, a, w, h => (show (method (f + 1) 326 (.pointer (some ⟨b, 0, none⟩)) "Unwrap").run Tryz.prog w = (do let v ← loadVar 117 ⟨b, 0, none⟩; pure (201, v) : Sem (FuncId × Value)).run Tryz.prog w by kernel_rfl).trans (load_ptr b 0 a _ w h)
  | 46, _, f, b, a, w, h => (show (method (f + 1) 329 (.pointer (some ⟨b, 0, none⟩)) "Unwrap").run Tryz.prog w = (do let v ← loadVar 117 ⟨b, 0, none⟩; pure (201, v) : Sem (FuncId × Value)).run Tryz.prog w by kernel_rfl).trans (load_ptr b 0 a _ w h)
  | 47, _, f, b, a, w, h => (show (method (f + 1) 332 (.pointer (some ⟨b, 0, none⟩)) "Unwrap").run Tryz.prog w = (do let v ← loadVar 117 ⟨b, 0, none⟩; pure (201, v) : Sem (FuncId × Value)).run Tryz.prog w by kernel_rfl).trans (load_ptr b 0 a _ w h)
  | 48, _, f, b, a, w, h => (show (method (f + 1) 335 (.pointer (some ⟨b, 0, none⟩)) "Unwrap").run Tryz.prog w = (do let v ← loadVar 117 ⟨b, 0, none⟩; pure (201, v) : Sem (FuncId × Value)).run Tryz.prog w by kernel_rfl).trans (load_ptr b 0 a _ w h)
  | 49, _, f, b, a, w, h => (show (method (f + 1) 338 (.pointer (some ⟨b, 0, none⟩)) "Unwrap").run Tryz.prog w = (do let v ← loadVar 117 ⟨b, 0, none⟩; pure (201, v) : Sem (FuncId × Value)).run Tryz.prog w by kernel_rfl).trans (load_ptr b 0 a _ w h)
  | 50, _, f, b, a, w, h => (show (method (f + 1) 341 (.pointer (some ⟨b, 0, none⟩)) "Unwrap").run Tryz.prog w = (do let v ← loadVar 117 ⟨b, 0, none⟩; pure (201, v) : Sem (FuncId × Value)).run Tryz.prog w by kernel_rfl).trans (load_ptr b 0 a _ w h)
  | 51, _, f, b, a, w, h => (show (method (f + 1) 344 (.pointer (some ⟨b, 0, none⟩)) "Unwrap").run Tryz.prog w = (do let v ← loadVar 117 ⟨b, 0, none⟩; pure (201, v) : Sem (FuncId × Value)).run Tryz.prog w by kernel_rfl).trans (load_ptr b 0 a _ w h)
  | 52, _, f, b, a, w, h => (show (method (f + 1) 347 (.pointer (some ⟨b, 0, none⟩)) "Unwrap").run Tryz.prog w = (do let v ← loadVar 117 ⟨b, 0, none⟩; pure (201, v) : Sem (FuncId × Value)).run Tryz.prog w by kernel_rfl).trans (load_ptr b 0 a _ w h)
  | 53, _, f, b, a, w, h => (show (method (f + 1) 350 (.pointer (some ⟨b, 0, none⟩)) "Unwrap").run Tryz.prog w = (do let v ← loadVar 117 ⟨b, 0, none⟩; pure (201, v) : Sem (FuncId × Value)).run Tryz.prog w by kernel_rfl).trans (load_ptr b 0 a _ w h)
  | 54, _, f, b, a, w, h => (show (method (f + 1) 353 (.pointer (some ⟨b, 0, none⟩)) "Unwrap").run Tryz.prog w = (do let v ← loadVar 117 ⟨b, 0, none⟩; pure (201, v) : Sem (FuncId × Value)).run Tryz.prog w by kernel_rfl).trans (load_ptr b 0 a _ w h)
  | 55, _, f, b, a, w, h => (show (method (f + 1) 356 (.pointer (some ⟨b, 0, none⟩)) "Unwrap").run Tryz.prog w = (do let v ← loadVar 117 ⟨b, 0, none⟩; pure (201, v) : Sem (FuncId × Value)).run Tryz.prog w by kernel_rfl).trans (load_ptr b 0 a _ w h)
  | 56, _, f, b, a, w, h => (show (method (f + 1) 359 (.pointer (some ⟨b, 0, none⟩)) "Unwrap").run Tryz.prog w = (do let v ← loadVar 117 ⟨b, 0, none⟩; pure (201, v) : Sem (FuncId × Value)).run Tryz.prog w by kernel_rfl).trans (load_ptr b 0 a _ w h)
  | 57, _, f, b, a, w, h => (show (method (f + 1) 362 (.pointer (some ⟨b, 0, none⟩)) "Unwrap").run Tryz.prog w = (do let v ← loadVar 117 ⟨b, 0, none⟩; pure (201, v) : Sem (FuncId × Value)).run Tryz.prog w by kernel_rfl).trans (load_ptr b 0 a _ w h)
  | 58, _, f, b, a, w, h => (show (method (f + 1) 365 (.pointer (some ⟨b, 0, none⟩)) "Unwrap").run Tryz.prog w = (do let v ← loadVar 117 ⟨b, 0, none⟩; pure (201, v) : Sem (FuncId × Value)).run Tryz.prog w by kernel_rfl).trans (load_ptr b 0 a _ w h)
  | 59, _, f, b, a, w, h => (show (method (f + 1) 368 (.pointer (some ⟨b, 0, none⟩)) "Unwrap").run Tryz.prog w = (do let v ← loadVar 117 ⟨b, 0, none⟩; pure (201, v) : Sem (FuncId × Value)).run Tryz.prog w by kernel_rfl).trans (load_ptr b 0 a _ w h)
  | 60, _, f, b, a, w, h => (show (method (f + 1) 371 (.pointer (some ⟨b, 0, none⟩)) "Unwrap").run Tryz.prog w = (do let v ← loadVar 117 ⟨b, 0, none⟩; pure (201, v) : Sem (FuncId × Value)).run Tryz.prog w by kernel_rfl).trans (load_ptr b 0 a _ w h)
  | 61, _, f, b, a, w, h => (show (method (f + 1) 374 (.pointer (some ⟨b, 0, none⟩)) "Unwrap").run Tryz.prog w = (do let v ← loadVar 117 ⟨b, 0, none⟩; pure (201, v) : Sem (FuncId × Value)).run Tryz.prog w by kernel_rfl).trans (load_ptr b 0 a _ w h)
  | 62, _, f, b, a, w, h => (show (method (f + 1) 377 (.pointer (some ⟨b, 0, none⟩)) "Unwrap").run Tryz.prog w = (do let v ← loadVar 117 ⟨b, 0, none⟩; pure (201, v) : Sem (FuncId × Value)).run Tryz.prog w by kernel_rfl).trans (load_ptr b 0 a _ w h)
  | 63, _, f, b, a, w, h => (show (method (f + 1) 380 (.pointer (some ⟨b, 0, none⟩)) "Unwrap").run Tryz.prog w = (do let v ← loadVar 117 ⟨b, 0, none⟩; pure (201, v) : Sem (FuncId × Value)).run Tryz.prog w by kernel_rfl).trans (load_ptr b 0 a _ w h)
  | n + 64, h, _, _, _, _, _ => absurd h (by omega)
theorem mw_wrappers : ∀ k : Nat, k < 64 → ∀ (f b a : Nat) (w : World), w.cell? ⟨b, 0, none⟩ = some (.pointer (some ⟨a, 0, none⟩)) → (method (f + 1) (cid k) (.pointer (some ⟨b, 0, none⟩)) "casement/wrap.wrappers").run Tryz.prog w = .ok (202, .pointer (some ⟨a, 0, none⟩)) w
  | 0, _, f, b, a, w, h => (show (method (f + 1) 383 (.pointer (some ⟨b, 0, none⟩)) "casement/wrap.wrappers").run Tryz.prog w = (do let v ← loadVar 117 ⟨b, 0, none⟩; pure (202, v) : Sem (FuncId × Value)).run Tryz.prog w by kernel_rfl).trans (load_ptr b 0 a _ w h)
  | 1, _, f, b, a, w, h => (show (method (f + 1) 386 (.pointer (some ⟨b, 0, none⟩)) "casement/wrap.wrappers").run Tryz.prog w = (do let v ← loadVar 117 ⟨b, 0, none⟩; pure (202, v) : Sem (FuncId × Value)).run Tryz.prog w by kernel_rfl).trans (load_ptr b 0 a _ w h)
  | 2, _, f, b, a, w, h => (show (method (f + 1) 389 (.pointer (some ⟨b, 0, none⟩)) "casement/wrap.wrappers").run Tryz.prog w = (do let v ← loadVar 117 ⟨b, 0, none⟩; pure (202, v) : Sem (FuncId × Value)).run Tryz.prog w by kernel_rfl).trans (load_ptr b 0 a _ w h)
  | 3, _, f, b, a, w, h => (show (method (f + 1) 392 (.pointer (some ⟨b, 0, none⟩)) "casement/wrap.wrappers").run Tryz.prog w = (do let v ← loadVar 117 ⟨b, 0, none⟩; pure (202, v) : Sem (FuncId × Value)).run Tryz.prog w by kernel_rfl).trans (load_ptr b 0 a _ w h)
  | 4, _, f, b, a, w, h => (show (method (f + 1) 395 (.pointer (some ⟨b, 0, none⟩)) "casement/wrap.wrappers").run Tryz.prog w = (do let v ← loadVar 117 ⟨b, 0, none⟩; pure (202, v) : Sem (FuncId × Value)).run Tryz.prog w by kernel_rfl).trans (load_ptr b 0 a _ w h)
  | 5, _, f, b, a, w, h => (show (method (f + 1) 398 (.pointer (some ⟨b, 0, none⟩)) "casement/wrap.wrappers").run Tryz.prog w = (do let v ← loadVar 117 ⟨b, 0, none⟩; pure (202, v) : Sem (FuncId × Value)).run Tryz.prog w by kernel_rfl).trans (load_ptr b 0 a _ w h)
  | 6, _, f, b, a, w, h => (show (method (f + 1) 401 (.pointer (some ⟨b, 0, none⟩)) "casement/wrap.wrappers").run Tryz.prog w = (do let v ← loadVar 117 ⟨b, 0, none⟩; pure (202, v) : Sem (FuncId × Value)).run Tryz.prog w by kernel_rfl).trans (load_ptr b 0 a _ w h)
  | 7, _, f, b, a, w, h => (show (method (f + 1) 404 (.pointer (some ⟨b, 0, none⟩)) "casement/wrap.wrappers").run Tryz.prog w = (do let v ← loadVar 117 ⟨b, 0, none⟩; pure (202, v) : Sem (FuncId × Value)).run Tryz.prog w by kernel_rfl).trans (load_ptr b 0 a _ w h)
  | 8, _, f, b, a, w, h => (show (method (f + 1) 407 (.pointer (some ⟨b, 0, none⟩)) "casement/wrap.wrappers").run Tryz.prog w = (do let v ← loadVar 117 ⟨b, 0, none⟩; pure (202, v) : Sem (FuncId × Value)).run Tryz.prog w by kernel_rfl).trans (load_ptr b 0 a _ w h)
  | 9, _, f, b, a, w, h => (show (method (f + 1) 410 (.pointer (some ⟨b, 0, none⟩)) "casement/wrap.wrappers").run Tryz.prog w = (do let v ← loadVar 117 ⟨b, 0, none⟩; pure (202, v) : Sem (FuncId × Value)).run Tryz.prog w by kernel_rfl).trans (load_ptr b 0 a _ w h)
  | 10, _, f, b, a, w, h => (show (method (f + 1) 413 (.pointer (some ⟨b, 0, none⟩)) "casement/wrap.wrappers").run Tryz.prog w = (do let v ← loadVar 117 ⟨b, 0, none⟩; pure (202, v) : Sem (FuncId × Value)).run Tryz.prog w by kernel_rfl).trans (load_ptr b 0 a _ w h)
  | 11, _, f, b, a, w, h => (show (method (f + 1) 416 (.pointer (some ⟨b, 0, none⟩)) "casement/wrap.wrappers").run Tryz.prog w = (do let v ← loadVar 117 ⟨b, 0, none⟩; pure (202, v) : Sem (FuncId × Value)).run Tryz.prog w by kernel_rfl).trans (load_ptr b 0 a _ w h)
  | 12, _, f, b, a, w, h => (show (method (f + 1) 419 (.pointer (some ⟨b, 0, none⟩)) "casement/wrap.wrappers").run Tryz.prog w = (do let v ← loadVar 117 ⟨b, 0, none⟩; pure (202, v) : Sem (FuncId × Value)).run Tryz.prog w by kernel_rfl).trans (load_ptr b 0 a _ w h)
  | 13, _, f, b, a, w, h => (show (method (f + 1) 422 (.pointer (some ⟨b, 0, none⟩)) "casement/wrap.wrappers").run Tryz.prog w = (do let v ← loadVar 117 ⟨b, 0, none⟩; pure (202, v) : Sem (FuncId × Value)).run Tryz.prog w by kernel_rfl).trans (load_ptr b 0 a _ w h)
  | 14, _, f, b, a, w, h => (show (method (f + 1) 425 (.pointer (some ⟨b, 0, none⟩)) "casement/wrap.wrappers").run Tryz.prog w = (do let v ← loadVar 117 ⟨b, 0, none⟩; pure (202, v) : Sem (FuncId × Value)).run Tryz.prog w by kernel_rfl).trans (load_ptr b 0 a _ w h)
  | 15, _, f, b, a, w, h => (show (method (f + 1) 428 (.pointer (some ⟨b, 0, none⟩)) "casement/wrap.wrappers").run Tryz.prog w = (do let v ← loadVar 117 ⟨b, 0, none⟩; pure (202, v) : Sem (FuncId × Value)).run Tryz.prog w by kernel_rfl).trans (load_ptr b 0 a _ w h)
  | 16, _, f, b, a, w, h => (show (method (f + 1) 238 (.pointer (some ⟨b, 0, none⟩)) "casement/wrap.wrappers").run Tryz.prog w = (do let v ← loadVar 117 ⟨b, 0, none⟩; pure (202, v) : Sem (FuncId × Value)).run Tryz.prog w by kernel_rfl).trans (load_ptr b 0 a _ w h)
  | 17, _, f, b, a, w, h => (show (method (f + 1) 241 (.pointer (some ⟨b, 0, none⟩)) "casement/wrap.wrappers").run Tryz.prog w = (do let v ← loadVar 117 ⟨b, 0, none⟩; pure (202, v) : Sem (FuncId × Value)).run Tryz.prog w by kernel_rfl).trans (load_ptr b 0 a _ w h)
  | 18, _, f, b, a, w, h => (show (method (f + 1) 244 (.pointer (some ⟨b, 0, none⟩)) "casement/wrap.wrappers").run Tryz.prog w = (do let v ← loadVar 117 ⟨b, 0, none⟩; pure (202, v) : Sem (FuncId × Value)).run Tryz.prog w by kernel_rfl).trans (load_ptr b 0 a _ w h)
  | 19, _, f, b, a, w, h => (show (method (f + 1) 247 (.pointer (some ⟨b, 0, none⟩)) "casement/wrap.wrappers").run Tryz.prog w = (do let v ← loadVar 117 ⟨b, 0, none⟩; pure (202, v) : Sem (FuncId × Value)).run Tryz.prog w by kernel_rfl).trans (load_ptr b 0 a _ w h)
  | 20, _, f, b, a, w, h => (show (method (f + 1) 250 (.pointer (some ⟨b, 0, none⟩)) "casement/wrap.wrappers").run Tryz.prog w = (do let v ← loadVar 117 ⟨b, 0, none⟩; pure (202, v) : Sem (FuncId × Value)).run Tryz.prog w by kernel_rfl).trans (load_ptr b 0 a _ w h)
  | 21, _, f, b, a, w, h => (show (method (f + 1) 253 (.pointer (some ⟨b, 0, none⟩)) "casement/wrap.wrappers").run Tryz.prog w = (do let v ← loadVar 117 ⟨b, 0, none⟩; pure (202, v) : Sem (FuncId × Value)).run Tryz.prog w by kernel_rfl).trans (load_ptr b 0 a _ w h)
  | 22, _, f, b, a, w, h => (show (method (f + 1) 256 (.pointer (some ⟨b, 0, none⟩)) "casement/wrap.wrappers").run Tryz.prog w = (do let v ← loadVar 117 ⟨b, 0, none⟩; pure (202, v) : Sem (FuncId × Value)).run Tryz.prog w by kernel_rfl).trans (load_ptr b 0 a _ w h)
  | 23, _, f, b, a, w, h => (show (method (f + 1) 259 (.pointer (some ⟨b, 0, none⟩)) "casement/wrap.wrappers").run Tryz.prog w = (do let v ← loadVar 117 ⟨b, 0, none⟩; pure (202, v) : Sem (FuncId × Value)).run Tryz.prog w by kernel_rfl).trans (load_ptr b 0 a _ w h)
  | 24, _, f, b, a, w, h => (show (method (f + 1) 262 (.pointer (some ⟨b, 0, none⟩)) "casement/wrap.wrappers").run Tryz.prog w = (do let v ← loadVar 117 ⟨b, 0, none⟩; pure (202, v) : Sem (FuncId × Value)).run Tryz.prog w by kernel_rfl).trans (load_ptr b 0 a _ w h)
  | 25, _, f, b, a, w, h => (show (method (f + 1) 265 (.pointer (some ⟨b, 0, none⟩)) "casement/wrap.wrappers").run Tryz.prog w = (do let v ← loadVar 117 ⟨b, 0, none⟩; pure (202, v) : Sem (FuncId × Value)).run Tryz.prog w by kernel_rfl).trans (load_ptr b 0 a _ w h)
  | 26, _, f, b, a, w, h => (show (method (f + 1) 268 (.pointer (some ⟨b, 0, none⟩)) "casement/wrap.wrappers").run Tryz.prog w = (do let v ← loadVar 117 ⟨b, 0, none⟩; pure (202, v) : Sem (FuncId × Value)).run Tryz.prog w by kernel_rfl).trans (load_ptr b 0 a _ w h)
  | 27, _, f, b, a, w, h => (show (method (f + 1) 271 (.pointer (some ⟨b, 0, none⟩)) "casement/wrap.wrappers").run Tryz.prog w = (do let v ← loadVar 117 ⟨b, 0, none⟩; pure (202, v) : Sem (FuncId × Value)).run Tryz.prog w by kernel_rfl).trans (load_ptr b 0 a _ w h)
  | 28, _, f, b, a, w, h => (show (method (f + 1) 274 (.pointer (some ⟨b, 0, none⟩)) "casement/wrap.wrappers").run Tryz.prog w = (do let v ← loadVar 117 ⟨b, 0, none⟩; pure (202, v) : Sem (FuncId × Value)).run Tryz.prog w by kernel_rfl).trans (load_ptr b 0 a _ w h)
  | 29, _, f, b, a, w, h => (show (method (f + 1) 277 (.pointer (some ⟨b, 0, none⟩)) "casement/wrap.wrappers").run Tryz.prog w = (do let v ← loadVar 117 ⟨b, 0, none⟩; pure (202, v) : Sem (FuncId × Value)).run Tryz.prog w by kernel_rfl).trans (load_ptr b 0 a _ w h)
  | 30, _, f, b, a, w, h => (show (method (f + 1) 280 (.pointer (some ⟨b, 0, none⟩)) "casement/wrap.wrappers").run Tryz.prog w = (do let v ← loadVar 117 ⟨b, 0, none⟩; pure (202, v) : Sem (FuncId × Value)).run Tryz.prog w by kernel_rfl).trans (load_ptr b 0 a _ w h)
  | 31, _, f, b, a, w, h => (show (method (f + 1) 283 (.pointer (some ⟨b, 0, none⟩)) "casement/wrap.wrappers").run Tryz.prog w = (do let v ← loadVar 117 ⟨b, 0, none⟩; pure (202, v) : Sem (FuncId × Value)).run Tryz.prog w by kernel_rfl).trans (load_ptr b 0 a _ w h)
  | 32, _, f, b, a, w, h => (show (method (f + 1) 287 (.pointer (some ⟨b, 0, none⟩)) "casement/wrap.wrappers").run Tryz.prog w = (do let v ← loadVar 117 ⟨b, 0, none⟩; pure (202, v) : Sem (FuncId × Value)).run Tryz.prog w by kernel_rfl).trans (load_ptr b 0 a _ w h)
  | 33, _, f, b, a, w, h => (show (method (f + 1) 290 (.pointer (some ⟨b, 0, none⟩)) "casement/wrap.wrappers").run Tryz.prog w = (do let v ← loadVar 117 ⟨b, 0, none⟩; pure (202, v) : Sem (FuncId × Value)).run Tryz.prog w by kernel_rfl).trans (load_ptr b 0 a _ w h)
  | 34, _, f, b, a, w, h => (show (method (f + 1) 293 (.pointer (some ⟨b, 0, none⟩)) "casement/wrap.wrappers").run Tryz.prog w = (do let v ← loadVar 117 ⟨b, 0, none⟩; pure (202, v) : Sem (FuncId × Value)).run Tryz.prog w by kernel_rfl).trans (load_ptr b 0 a _ w h)
  | 35, _, f, b, a, w, h => (show (method (f + 1) 296 (.pointer (some ⟨b, 0, none⟩)) "casement/wrap.wrappers").run Tryz.prog w = (do let v ← loadVar 117 ⟨b, 0, none⟩; pure (202, v) : Sem (FuncId × Value)).run Tryz.prog w by kernel_rfl).trans (load_ptr b 0 a _ w h)
  | 36, _, f, b, a, w, h => (show (method (f + 1) 299 (.pointer (some ⟨b, 0, none⟩)) "casement/wrap.wrappers").run Tryz.prog w = (do let v ← loadVar 117 ⟨b, 0, none⟩; pure (202, v) : Sem (FuncId × Value)).run Tryz.prog w by kernel_rfl).trans (load_ptr b 0 a _ w h)
  | 37, _, f, b, a, w, h => (show (method (f + 1) 302 (.pointer (some ⟨b, 0, none⟩)) "casement/wrap.wrappers").run Tryz.prog w = (do let v ← loadVar 117 ⟨b, 0, none⟩; pure (202, v) : Sem (FuncId × Value)).run Tryz.prog w by kernel_rfl).trans (load_ptr b 0 a _ w h)
  | 38, _, f, b, a, w, h => (show (method (f + 1) 305 (.pointer (some ⟨b, 0, none⟩)) "casement/wrap.wrappers").run Tryz.prog w = (do let v ← loadVar 117 ⟨b, 0, none⟩; pure (202, v) : Sem (FuncId × Value)).run Tryz.prog w by kernel_rfl).trans (load_ptr b 0 a _ w h)
  | 39, _, f, b, a, w, h => (show (method (f + 1) 308 (.pointer (some ⟨b, 0, none⟩)) "casement/wrap.wrappers").run Tryz.prog w = (do let v ← loadVar 117 ⟨b, 0, none⟩; pure (202, v) : Sem (FuncId × Value)).run Tryz.prog w by kernel_rfl).trans (load_ptr b 0 a _ w h)
  | 40, _, f, b, a, w, h => (show (method (f + 1) 311 (.pointer (some ⟨b, 0, none⟩)) "casement/wrap.wrappers").run Tryz.prog w = (do let v ← loadVar 117 ⟨b, 0, none⟩; pure (202, v) : Sem (FuncId × Value)).run Tryz.prog w by kernel_rfl).trans (load_ptr b 0 a _ w h)
  | 41, _, f, b, a, w, h => (show (method (f + 1) 314 (.pointer (some ⟨b, 0, none⟩)) "casement/wrap.wrappers").run Tryz.prog w = (do let v ← loadVar 117 ⟨b, 0, none⟩; pure (202, v) : Sem (FuncId × Value)).run Tryz.prog w by kernel_rfl).trans (load_ptr b 0 a _ w h)
  | 42, _, f, b, a, w, h => (show (method (f + 1) 317 (.pointer (some ⟨b, 0, none⟩)) "casement/wrap.wrappers").run Tryz.prog w = (do let v ← loadVar 117 ⟨b, 0, none⟩; pure (202, v) : Sem (FuncId × Value)).run Tryz.prog w by kernel_rfl).trans (load_ptr b 0 a _ w h)
  | 43, _, f, b, a, w, h => (show (method (f + 1) 320 (.pointer (some ⟨b, 0, none⟩)) "casement/wrap.wrappers").run Tryz.prog w = (do let v ← loadVar 117 ⟨b, 0, none⟩; pure (202, v) : Sem (FuncId × Value)).run Tryz.prog w by kernel_rfl).trans (load_ptr b 0 a _ w h)
  | 44, _, f, b, a, w, h => (show (method (f + 1) 323 (.pointer (some ⟨b, 0, none⟩)) "casement/wrap.wrappers").run Tryz.prog w = (do let v ← loadVar 117 ⟨b, 0, none⟩; pure (202, v) : Sem (FuncId × Value)).run Tryz.prog w by kernel_rfl).trans (load_ptr b 0 a _ w h)
  | 45, _, f, b, a, w, h => (show (method (f + 1) 326 (.pointer (some ⟨b, 0, none⟩)) "casement/wrap.wrappers").run Tryz.prog w = (do let v ← loadVar 117 ⟨b, 0, none⟩; pure (202, v) : Sem (FuncId × Value)).run Tryz.prog w by kernel_rfl).trans (load_ptr b 0 a _ w h)
  | 46, _, f, b, a, w, h => (show (method (f + 1) 329 (.pointer (some ⟨b, 0, none⟩)) "casement/wrap.wrappers").run Tryz.prog w = (do let v ← loadVar 117 ⟨b, 0, none⟩; pure (202, v) : Sem (FuncId × Value)).run Tryz.prog w by kernel_rfl).trans (load_ptr b 0 a _ w h)
  | 47, _, f, b, a, w, h => (show (method (f + 1) 332 (.pointer (some ⟨b, 0, none⟩)) "casement/wrap.wrappers").run Tryz.prog w = (do let v ← loadVar 117 ⟨b, 0, none⟩; pure (202, v) : Sem (FuncId × Value)).run Tryz.prog w by kernel_rfl).trans (load_ptr b 0 a _ w h)
  | 48, _, f, b, a, w, h => (show (method (f + 1) 335 (.pointer (some ⟨b, 0, none⟩)) "casement/wrap.wrappers").run Tryz.prog w = (do let v ← loadVar 117 ⟨b, 0, none⟩; pure (202, v) : Sem (FuncId × Value)).run Tryz.prog w by kernel_rfl).trans (load_ptr b 0 a _ w h)
  | 49, _, f, b, a, w, h => (show (method (f + 1) 338 (.pointer (some ⟨b, 0, none⟩)) "casement/wrap.wrappers").run Tryz.prog w = (do let v ← loadVar 117 ⟨b, 0, none⟩; pure (202, v) : Sem (FuncId × Value)).run Tryz.prog w by kernel_rfl).trans (load_ptr b 0 a _ w h)
  | 50, _, f, b, a, w, h => (show (method (f + 1) 341 (.pointer (some ⟨b, 0, none⟩)) "casement/wrap.wrappers").run Tryz.prog w = (do let v ← loadVar 117 ⟨b, 0, none⟩; pure (202, v) : Sem (FuncId × Value)).run Tryz.prog w by kernel_rfl).trans (load_ptr b 0 a _ w h)
  | 51, _, f, b, a, w, h => (show (method (f + 1) 344 (.pointer (some ⟨b, 0, none⟩)) "casement/wrap.wrappers").run Tryz.prog w = (do let v ← loadVar 117 ⟨b, 0, none⟩; pure (202, v) : Sem (FuncId × Value)).run Tryz.prog w by kernel_rfl).trans (load_ptr b 0 a _ w h)
  | 52, _, f, b, a, w, h => (show (method (f + 1) 347 (.pointer (some ⟨b, 0, none⟩)) "casement/wrap.wrappers").run Tryz.prog w = (do let v ← loadVar 117 ⟨b, 0, none⟩; pure (202, v) : Sem (FuncId × Value)).run Tryz.prog w by kernel_rfl).trans (load_ptr b 0 a _ w h)
  | 53, _, f, b, a, w, h => (show (method (f + 1) 350 (.pointer (some ⟨b, 0, none⟩)) "casement/wrap.wrappers").run Tryz.prog w = (do let v ← loadVar 117 ⟨b, 0, none⟩; pure (202, v) : Sem (FuncId × Value)).run Tryz.prog w by kernel_rfl).trans (load_ptr b 0 a _ w h)
  | 54, _, f, b, a, w, h => (show (method (f + 1) 353 (.pointer (some ⟨b, 0, none⟩)) "casement/wrap.wrappers").run Tryz.prog w = (do let v ← loadVar 117 ⟨b, 0, none⟩; pure (202, v) : Sem (FuncId × Value)).run Tryz.prog w by kernel_rfl).trans (load_ptr b 0 a _ w h)
  | 55, _, f, b, a, w, h => (show (method (f + 1) 356 (.pointer (some ⟨b, 0, none⟩)) "casement/wrap.wrappers").run Tryz.prog w = (do let v ← loadVar 117 ⟨b, 0, none⟩; pure (202, v) : Sem (FuncId × Value)).run Tryz.prog w by kernel_rfl).trans (load_ptr b 0 a _ w h)
  | 56, _, f, b, a, w, h => (show (method (f + 1) 359 (.pointer (some ⟨b, 0, none⟩)) "casement/wrap.wrappers").run Tryz.prog w = (do let v ← loadVar 117 ⟨b, 0, none⟩; pure (202, v) : Sem (FuncId × Value)).run Tryz.prog w by kernel_rfl).trans (load_ptr b 0 a _ w h)
  | 57, _, f, b, a, w, h => (show (method (f + 1) 362 (.pointer (some ⟨b, 0, none⟩)) "casement/wrap.wrappers").run Tryz.prog w = (do let v ← loadVar 117 ⟨b, 0, none⟩; pure (202, v) : Sem (FuncId × Value)).run Tryz.prog w by kernel_rfl).trans (load_ptr b 0 a _ w h)
  | 58, _, f, b, a, w, h => (show (method (f + 1) 365 (.pointer (some ⟨b, 0, none⟩)) "casement/wrap.wrappers").run Tryz.prog w = (do let v ← loadVar 117 ⟨b, 0, none⟩; pure (202, v) : Sem (FuncId × Value)).run Tryz.prog w by kernel_rfl).trans (load_ptr b 0 a _ w h)
  | 59, _, f, b, a, w, h => (show (method (f + 1) 368 (.pointer (some ⟨b, 0, none⟩)) "casement/wrap.wrappers").run Tryz.prog w = (do let v ← loadVar 117 ⟨b, 0, none⟩; pure (202, v) : Sem (FuncId × Value)).run Tryz.prog w by kernel_rfl).trans (load_ptr b 0 a _ w h)
  | 60, _, f, b, a, w, h => (show (method (f + 1) 371 (.pointer (some ⟨b, 0, none⟩)) "casement/wrap.wrappers").run Tryz.prog w = (do let v ← loadVar 117 ⟨b, 0, none⟩; pure (202, v) : Sem (FuncId × Value)).run Tryz.prog w by kernel_rfl).trans (load_ptr b 0 a _ w h)
  | 61, _, f, b, a, w, h => (show (method (f + 1) 374 (.pointer (some ⟨b, 0, none⟩)) "casement/wrap.wrappers").run Tryz.prog w = (do let v ← loadVar 117 ⟨b, 0, none⟩; pure (202, v) : Sem (FuncId × Value)).run Tryz.prog w by kernel_rfl).trans (load_ptr b 0 a _ w h)
  | 62, _, f, b, a, w, h => (show (method (f + 1) 377 (.pointer (some ⟨b, 0, none⟩)) "casement/wrap.wrappers").run Tryz.prog w = (do let v ← loadVar 117 ⟨b, 0, none⟩; pure (202, v) : Sem (FuncId × Value)).run Tryz.prog w by kernel_rfl).trans (load_ptr b 0 a _ w h)
  | 63, _, f, b, a, w, h => (show (method (f + 1) 380 (.pointer (some ⟨b, 0, none⟩)) "casement/wrap.wrappers").run Tryz.prog w = (do let v ← loadVar 117 ⟨b, 0, none⟩; pure (202, v) : Sem (FuncId × Value)).run Tryz.prog w by kernel_rfl).trans (load_ptr b 0 a _ w h)
  | n + 64, h, _, _, _, _, _ => absurd h (by omega)

end Go.Proofs.YtbnbfgkcndomaabGreatDoor
