/-
  Texts of this claim, one behind the other: what each is about stands ahead of it.
-/
import Derived.Test.YtbghjmkgicdnoaaGreatK15
import Derived.Test.YtbghjmkgicdnoaaGreatK13
/-
  Contracts of the document's answer for layer 13: the places of a Frame.
-/
namespace Go.Proofs.YtbghjmkgicdnoaaGreat
open Go.RowKit

def frF (r : Rc) (l : List Rc) : List Rc := (l.map fun q => zMe q r).filter fun q => !zEm q
theorem frF_snoc (r : Rc) (l : List Rc) (q : Rc) : frF r (l ++ [q]) = if zEm (zMe q r) = true then frF r l else frF r l ++ [zMe q r] := by
  unfold frF
  rw [List.map_append, List.filter_append, List.map_singleton]
  cases e : zEm (zMe q r) <;> simp [e]

set_option maxRecDepth 20000 in
set_option maxHeartbeats 8000000 in
theorem plc_frame (q : Rc) (c b : Co) (t : ByteArray) (n : Int) (r : Rc) (w : World) (h : zEm r = false) (hz : c.a ≠ 0) (hq : zMa q = true) :
    Calls Tryz.prog 29 #[(Value.agg #[.int .u8 (⟨2, q, c, b, t, n⟩ : St).k, .int .i64 (⟨2, q, c, b, t, n⟩ : St).r.x, .int .i64 (⟨2, q, c, b, t, n⟩ : St).r.y, .int .i64 (⟨2, q, c, b, t, n⟩ : St).r.w, .int .i64 (⟨2, q, c, b, t, n⟩ : St).r.h, .int .u8 (⟨2, q, c, b, t, n⟩ : St).c.r, .int .u8 (⟨2, q, c, b, t, n⟩ : St).c.g, .int .u8 (⟨2, q, c, b, t, n⟩ : St).c.b, .int .u8 (⟨2, q, c, b, t, n⟩ : St).c.a, .int .u8 (⟨2, q, c, b, t, n⟩ : St).b.r, .int .u8 (⟨2, q, c, b, t, n⟩ : St).b.g, .int .u8 (⟨2, q, c, b, t, n⟩ : St).b.b, .int .u8 (⟨2, q, c, b, t, n⟩ : St).b.a, .string (⟨2, q, c, b, t, n⟩ : St).t, .int .i64 (⟨2, q, c, b, t, n⟩ : St).n]), .agg #[.int .i64 r.x, .int .i64 r.y, .int .i64 r.w, .int .i64 r.h]] w fun e w' => AnsP w (frF r (sidR q)) e w' := by
  have HL : Hid (∀ c d, Below w.heap.size w ((w.alloc c).alloc d)) := fun c d => ((Below.refl _ w).alloc (Nat.le_refl _) _).alloc (by simp) _
  have HE : Hid (∀ W, Calls Tryz.prog 43 #[.agg #[.int .i64 r.x, .int .i64 r.y, .int .i64 r.w, .int .i64 r.h]] W fun e w' => e = .returned (.bool false) ∧ Below W.heap.size W w') := fun W => by rw [← h]; exact rempty_any _ _ _ _ W
  have A : Bk ((w.alloc (.cells (#[.int .u8 (⟨2, q, c, b, t, n⟩ : St).k, .int .i64 (⟨2, q, c, b, t, n⟩ : St).r.x, .int .i64 (⟨2, q, c, b, t, n⟩ : St).r.y, .int .i64 (⟨2, q, c, b, t, n⟩ : St).r.w, .int .i64 (⟨2, q, c, b, t, n⟩ : St).r.h, .int .u8 (⟨2, q, c, b, t, n⟩ : St).c.r, .int .u8 (⟨2, q, c, b, t, n⟩ : St).c.g, .int .u8 (⟨2, q, c, b, t, n⟩ : St).c.b, .int .u8 (⟨2, q, c, b, t, n⟩ : St).c.a, .int .u8 (⟨2, q, c, b, t, n⟩ : St).b.r, .int .u8 (⟨2, q, c, b, t, n⟩ : St).b.g, .int .u8 (⟨2, q, c, b, t, n⟩ : St).b.b, .int .u8 (⟨2, q, c, b, t, n⟩ : St).b.a, .string (⟨2, q, c, b, t, n⟩ : St).t, .int .i64 (⟨2, q, c, b, t, n⟩ : St).n]) 48)).alloc (.cells #[.int .i64 r.x, .int .i64 r.y, .int .i64 r.w, .int .i64 r.h] 44)) w.heap.size (#[.int .u8 (⟨2, q, c, b, t, n⟩ : St).k, .int .i64 (⟨2, q, c, b, t, n⟩ : St).r.x, .int .i64 (⟨2, q, c, b, t, n⟩ : St).r.y, .int .i64 (⟨2, q, c, b, t, n⟩ : St).r.w, .int .i64 (⟨2, q, c, b, t, n⟩ : St).r.h, .int .u8 (⟨2, q, c, b, t, n⟩ : St).c.r, .int .u8 (⟨2, q, c, b, t, n⟩ : St).c.g, .int .u8 (⟨2, q, c, b, t, n⟩ : St).c.b, .int .u8 (⟨2, q, c, b, t, n⟩ : St).c.a, .int .u8 (⟨2, q, c, b, t, n⟩ : St).b.r, .int .u8 (⟨2, q, c, b, t, n⟩ : St).b.g, .int .u8 (⟨2, q, c, b, t, n⟩ : St).b.b, .int .u8 (⟨2, q, c, b, t, n⟩ : St).b.a, .string (⟨2, q, c, b, t, n⟩ : St).t, .int .i64 (⟨2, q, c, b, t, n⟩ : St).n]) 48 := (Bk.new w _ _).below ((Below.refl _ _).alloc (Nat.le_refl _) _)
  have B : Bk ((w.alloc (.cells (#[.int .u8 (⟨2, q, c, b, t, n⟩ : St).k, .int .i64 (⟨2, q, c, b, t, n⟩ : St).r.x, .int .i64 (⟨2, q, c, b, t, n⟩ : St).r.y, .int .i64 (⟨2, q, c, b, t, n⟩ : St).r.w, .int .i64 (⟨2, q, c, b, t, n⟩ : St).r.h, .int .u8 (⟨2, q, c, b, t, n⟩ : St).c.r, .int .u8 (⟨2, q, c, b, t, n⟩ : St).c.g, .int .u8 (⟨2, q, c, b, t, n⟩ : St).c.b, .int .u8 (⟨2, q, c, b, t, n⟩ : St).c.a, .int .u8 (⟨2, q, c, b, t, n⟩ : St).b.r, .int .u8 (⟨2, q, c, b, t, n⟩ : St).b.g, .int .u8 (⟨2, q, c, b, t, n⟩ : St).b.b, .int .u8 (⟨2, q, c, b, t, n⟩ : St).b.a, .string (⟨2, q, c, b, t, n⟩ : St).t, .int .i64 (⟨2, q, c, b, t, n⟩ : St).n]) 48)).alloc (.cells #[.int .i64 r.x, .int .i64 r.y, .int .i64 r.w, .int .i64 r.h] 44)) (w.heap.size + 1) #[.int .i64 r.x, .int .i64 r.y, .int .i64 r.w, .int .i64 r.h] 44 := by have := Bk.new (w.alloc (.cells (#[.int .u8 (⟨2, q, c, b, t, n⟩ : St).k, .int .i64 (⟨2, q, c, b, t, n⟩ : St).r.x, .int .i64 (⟨2, q, c, b, t, n⟩ : St).r.y, .int .i64 (⟨2, q, c, b, t, n⟩ : St).r.w, .int .i64 (⟨2, q, c, b, t, n⟩ : St).r.h, .int .u8 (⟨2, q, c, b, t, n⟩ : St).c.r, .int .u8 (⟨2, q, c, b, t, n⟩ : St).c.g, .int .u8 (⟨2, q, c, b, t, n⟩ : St).c.b, .int .u8 (⟨2, q, c, b, t, n⟩ : St).c.a, .int .u8 (⟨2, q, c, b, t, n⟩ : St).b.r, .int .u8 (⟨2, q, c, b, t, n⟩ : St).b.g, .int .u8 (⟨2, q, c, b, t, n⟩ : St).b.b, .int .u8 (⟨2, q, c, b, t, n⟩ : St).b.a, .string (⟨2, q, c, b, t, n⟩ : St).t, .int .i64 (⟨2, q, c, b, t, n⟩ : St).n]) 48)) #[.int .i64 r.x, .int .i64 r.y, .int .i64 r.w, .int .i64 r.h] 44; simpa using this
  have HD : Hid (∀ W, Calls Tryz.prog 25 #[(Value.agg #[.int .u8 (⟨2, q, c, b, t, n⟩ : St).k, .int .i64 (⟨2, q, c, b, t, n⟩ : St).r.x, .int .i64 (⟨2, q, c, b, t, n⟩ : St).r.y, .int .i64 (⟨2, q, c, b, t, n⟩ : St).r.w, .int .i64 (⟨2, q, c, b, t, n⟩ : St).r.h, .int .u8 (⟨2, q, c, b, t, n⟩ : St).c.r, .int .u8 (⟨2, q, c, b, t, n⟩ : St).c.g, .int .u8 (⟨2, q, c, b, t, n⟩ : St).c.b, .int .u8 (⟨2, q, c, b, t, n⟩ : St).c.a, .int .u8 (⟨2, q, c, b, t, n⟩ : St).b.r, .int .u8 (⟨2, q, c, b, t, n⟩ : St).b.g, .int .u8 (⟨2, q, c, b, t, n⟩ : St).b.b, .int .u8 (⟨2, q, c, b, t, n⟩ : St).b.a, .string (⟨2, q, c, b, t, n⟩ : St).t, .int .i64 (⟨2, q, c, b, t, n⟩ : St).n])] W fun e w' => e = .returned (.bool true) ∧ Below W.heap.size W w') := fun W => zdraws_any (⟨2, q, c, b, t, n⟩ : St) W
  have HAB : Hid (Bk ((w.alloc (.cells (#[.int .u8 (⟨2, q, c, b, t, n⟩ : St).k, .int .i64 (⟨2, q, c, b, t, n⟩ : St).r.x, .int .i64 (⟨2, q, c, b, t, n⟩ : St).r.y, .int .i64 (⟨2, q, c, b, t, n⟩ : St).r.w, .int .i64 (⟨2, q, c, b, t, n⟩ : St).r.h, .int .u8 (⟨2, q, c, b, t, n⟩ : St).c.r, .int .u8 (⟨2, q, c, b, t, n⟩ : St).c.g, .int .u8 (⟨2, q, c, b, t, n⟩ : St).c.b, .int .u8 (⟨2, q, c, b, t, n⟩ : St).c.a, .int .u8 (⟨2, q, c, b, t, n⟩ : St).b.r, .int .u8 (⟨2, q, c, b, t, n⟩ : St).b.g, .int .u8 (⟨2, q, c, b, t, n⟩ : St).b.b, .int .u8 (⟨2, q, c, b, t, n⟩ : St).b.a, .string (⟨2, q, c, b, t, n⟩ : St).t, .int .i64 (⟨2, q, c, b, t, n⟩ : St).n]) 48)).alloc (.cells #[.int .i64 r.x, .int .i64 r.y, .int .i64 r.w, .int .i64 r.h] 44)) w.heap.size (#[.int .u8 (⟨2, q, c, b, t, n⟩ : St).k, .int .i64 (⟨2, q, c, b, t, n⟩ : St).r.x, .int .i64 (⟨2, q, c, b, t, n⟩ : St).r.y, .int .i64 (⟨2, q, c, b, t, n⟩ : St).r.w, .int .i64 (⟨2, q, c, b, t, n⟩ : St).r.h, .int .u8 (⟨2, q, c, b, t, n⟩ : St).c.r, .int .u8 (⟨2, q, c, b, t, n⟩ : St).c.g, .int .u8 (⟨2, q, c, b, t, n⟩ : St).c.b, .int .u8 (⟨2, q, c, b, t, n⟩ : St).c.a, .int .u8 (⟨2, q, c, b, t, n⟩ : St).b.r, .int .u8 (⟨2, q, c, b, t, n⟩ : St).b.g, .int .u8 (⟨2, q, c, b, t, n⟩ : St).b.b, .int .u8 (⟨2, q, c, b, t, n⟩ : St).b.a, .string (⟨2, q, c, b, t, n⟩ : St).t, .int .i64 (⟨2, q, c, b, t, n⟩ : St).n]) 48 ∧ Bk ((w.alloc (.cells (#[.int .u8 (⟨2, q, c, b, t, n⟩ : St).k, .int .i64 (⟨2, q, c, b, t, n⟩ : St).r.x, .int .i64 (⟨2, q, c, b, t, n⟩ : St).r.y, .int .i64 (⟨2, q, c, b, t, n⟩ : St).r.w, .int .i64 (⟨2, q, c, b, t, n⟩ : St).r.h, .int .u8 (⟨2, q, c, b, t, n⟩ : St).c.r, .int .u8 (⟨2, q, c, b, t, n⟩ : St).c.g, .int .u8 (⟨2, q, c, b, t, n⟩ : St).c.b, .int .u8 (⟨2, q, c, b, t, n⟩ : St).c.a, .int .u8 (⟨2, q, c, b, t, n⟩ : St).b.r, .int .u8 (⟨2, q, c, b, t, n⟩ : St).b.g, .int .u8 (⟨2, q, c, b, t, n⟩ : St).b.b, .int .u8 (⟨2, q, c, b, t, n⟩ : St).b.a, .string (⟨2, q, c, b, t, n⟩ : St).t, .int .i64 (⟨2, q, c, b, t, n⟩ : St).n]) 48)).alloc (.cells #[.int .i64 r.x, .int .i64 r.y, .int .i64 r.w, .int .i64 r.h] 44)) (w.heap.size + 1) #[.int .i64 r.x, .int .i64 r.y, .int .i64 r.w, .int .i64 r.h] 44) := ⟨A, B⟩
  clear h A B
  have z1 : (c.a == 0) = false := beq_eq_false_iff_ne.2 hz
  have hb := may_bd hq
  have hb' := may_iff.1 hq
  have HRi : Hid (∀ W, Calls Tryz.prog 52 #[.agg #[.int .i64 q.x, .int .i64 q.y, .int .i64 q.w, .int .i64 q.h]] W fun e w' => e = .returned (.int .i64 (q.x + q.w)) ∧ Below W.heap.size W w') := fun W => rright_any _ _ _ _ W (by omega) (by omega) (by omega) (by omega)
  have HBe : Hid (∀ W, Calls Tryz.prog 53 #[.agg #[.int .i64 q.x, .int .i64 q.y, .int .i64 q.w, .int .i64 q.h]] W fun e w' => e = .returned (.int .i64 (q.y + q.h)) ∧ Below W.heap.size W w') := fun W => rbelow_any _ _ _ _ W (by omega) (by omega) (by omega) (by omega)
  have HF1 : Hid (∀ W, Calls Tryz.prog 54 #[.int .i64 q.x, .int .i64 q.y, .int .i64 (q.x + q.w), .int .i64 (q.y + 1)] W fun e w' => e = .returned (.agg #[.int .i64 (btw q.x q.y (q.x + q.w) (q.y + 1)).x, .int .i64 (btw q.x q.y (q.x + q.w) (q.y + 1)).y, .int .i64 (btw q.x q.y (q.x + q.w) (q.y + 1)).w, .int .i64 (btw q.x q.y (q.x + q.w) (q.y + 1)).h]) ∧ Below W.heap.size W w') := fun W => from_any _ _ _ _ W (by omega) (by omega) (by omega) (by omega) (by omega) (by omega) (by omega) (by omega)
  have HF2 : Hid (∀ W, Calls Tryz.prog 54 #[.int .i64 q.x, .int .i64 q.y, .int .i64 (q.x + 1), .int .i64 (q.y + q.h)] W fun e w' => e = .returned (.agg #[.int .i64 (btw q.x q.y (q.x + 1) (q.y + q.h)).x, .int .i64 (btw q.x q.y (q.x + 1) (q.y + q.h)).y, .int .i64 (btw q.x q.y (q.x + 1) (q.y + q.h)).w, .int .i64 (btw q.x q.y (q.x + 1) (q.y + q.h)).h]) ∧ Below W.heap.size W w') := fun W => from_any _ _ _ _ W (by omega) (by omega) (by omega) (by omega) (by omega) (by omega) (by omega) (by omega)
  have HF3 : Hid (∀ W, Calls Tryz.prog 54 #[.int .i64 (q.x + q.w - 1), .int .i64 q.y, .int .i64 (q.x + q.w), .int .i64 (q.y + q.h)] W fun e w' => e = .returned (.agg #[.int .i64 (btw (q.x + q.w - 1) q.y (q.x + q.w) (q.y + q.h)).x, .int .i64 (btw (q.x + q.w - 1) q.y (q.x + q.w) (q.y + q.h)).y, .int .i64 (btw (q.x + q.w - 1) q.y (q.x + q.w) (q.y + q.h)).w, .int .i64 (btw (q.x + q.w - 1) q.y (q.x + q.w) (q.y + q.h)).h]) ∧ Below W.heap.size W w') := fun W => from_any _ _ _ _ W (by omega) (by omega) (by omega) (by omega) (by omega) (by omega) (by omega) (by omega)
  have HF4 : Hid (∀ W, Calls Tryz.prog 54 #[.int .i64 q.x, .int .i64 (q.y + q.h - 1), .int .i64 (q.x + q.w), .int .i64 (q.y + q.h)] W fun e w' => e = .returned (.agg #[.int .i64 (btw q.x (q.y + q.h - 1) (q.x + q.w) (q.y + q.h)).x, .int .i64 (btw q.x (q.y + q.h - 1) (q.x + q.w) (q.y + q.h)).y, .int .i64 (btw q.x (q.y + q.h - 1) (q.x + q.w) (q.y + q.h)).w, .int .i64 (btw q.x (q.y + q.h - 1) (q.x + q.w) (q.y + q.h)).h]) ∧ Below W.heap.size W w') := fun W => from_any _ _ _ _ W (by omega) (by omega) (by omega) (by omega) (by omega) (by omega) (by omega) (by omega)
  have HSD : Hid (sidR q = [btw q.x q.y (q.x + q.w) (q.y + 1), btw q.x q.y (q.x + 1) (q.y + q.h), btw (q.x + q.w - 1) q.y (q.x + q.w) (q.y + q.h), btw q.x (q.y + q.h - 1) (q.x + q.w) (q.y + q.h)]) := rfl
  generalize btw q.x q.y (q.x + q.w) (q.y + 1) = s1 at *
  generalize btw q.x q.y (q.x + 1) (q.y + q.h) = s2 at *
  generalize btw (q.x + q.w - 1) q.y (q.x + q.w) (q.y + q.h) = s3 at *
  generalize btw q.x (q.y + q.h - 1) (q.x + q.w) (q.y + q.h) = s4 at *
  rw [HSD.out]
  obtain ⟨S, hS⟩ : ∃ S, S = [s1, s2, s3, s4] := ⟨_, rfl⟩
  have HS : Hid (S = [s1, s2, s3, s4]) := hS
  rw [← hS]
  clear hS
  obtain ⟨g1, g2, g3, g4, g5, g6, g7, g8⟩ := hb
  clear hq hz hb'
  go_enter Tryz.func29, Tryz.ntmps29
  go_wp2_with fail
  refine (HE.out _).mono ?_
  rintro e w1 ⟨rfl, hb1⟩
  have H1 : Hid (Below w.heap.size w w1 ∧ Bk w1 w.heap.size (#[.int .u8 (⟨2, q, c, b, t, n⟩ : St).k, .int .i64 (⟨2, q, c, b, t, n⟩ : St).r.x, .int .i64 (⟨2, q, c, b, t, n⟩ : St).r.y, .int .i64 (⟨2, q, c, b, t, n⟩ : St).r.w, .int .i64 (⟨2, q, c, b, t, n⟩ : St).r.h, .int .u8 (⟨2, q, c, b, t, n⟩ : St).c.r, .int .u8 (⟨2, q, c, b, t, n⟩ : St).c.g, .int .u8 (⟨2, q, c, b, t, n⟩ : St).c.b, .int .u8 (⟨2, q, c, b, t, n⟩ : St).c.a, .int .u8 (⟨2, q, c, b, t, n⟩ : St).b.r, .int .u8 (⟨2, q, c, b, t, n⟩ : St).b.g, .int .u8 (⟨2, q, c, b, t, n⟩ : St).b.b, .int .u8 (⟨2, q, c, b, t, n⟩ : St).b.a, .string (⟨2, q, c, b, t, n⟩ : St).t, .int .i64 (⟨2, q, c, b, t, n⟩ : St).n]) 48 ∧ Bk w1 (w.heap.size + 1) #[.int .i64 r.x, .int .i64 r.y, .int .i64 r.w, .int .i64 r.h] 44) := ⟨(HL.out _ _).trans (hb1.mono (HL.out _ _).size), HAB.out.1.below hb1, HAB.out.2.below hb1⟩
  clear hb1 HAB HL
  have cc := H1.out.2.1.cell
  have a0 := cc 0
  have a1 := cc 1
  have a2 := cc 2
  have a3 := cc 3
  have a4 := cc 4
  have a5 := cc 5
  have a6 := cc 6
  have a7 := cc 7
  have a8 := cc 8
  have a9 := cc 9
  have a10 := cc 10
  have a11 := cc 11
  have a12 := cc 12
  have a13 := cc 13
  have a14 := cc 14
  clear cc
  simp only [List.getElem?_toArray, List.getElem?_cons_zero, List.getElem?_cons_succ] at a0 a1 a2 a3 a4 a5 a6 a7 a8 a9 a10 a11 a12 a13 a14
  go_wp2_with fail
  refine (HD.out _).mono ?_
  rintro e w2 ⟨rfl, hb2⟩
  have H2 : Hid (Below w.heap.size w w2 ∧ Bk w2 w.heap.size (#[.int .u8 (⟨2, q, c, b, t, n⟩ : St).k, .int .i64 (⟨2, q, c, b, t, n⟩ : St).r.x, .int .i64 (⟨2, q, c, b, t, n⟩ : St).r.y, .int .i64 (⟨2, q, c, b, t, n⟩ : St).r.w, .int .i64 (⟨2, q, c, b, t, n⟩ : St).r.h, .int .u8 (⟨2, q, c, b, t, n⟩ : St).c.r, .int .u8 (⟨2, q, c, b, t, n⟩ : St).c.g, .int .u8 (⟨2, q, c, b, t, n⟩ : St).c.b, .int .u8 (⟨2, q, c, b, t, n⟩ : St).c.a, .int .u8 (⟨2, q, c, b, t, n⟩ : St).b.r, .int .u8 (⟨2, q, c, b, t, n⟩ : St).b.g, .int .u8 (⟨2, q, c, b, t, n⟩ : St).b.b, .int .u8 (⟨2, q, c, b, t, n⟩ : St).b.a, .string (⟨2, q, c, b, t, n⟩ : St).t, .int .i64 (⟨2, q, c, b, t, n⟩ : St).n]) 48 ∧ Bk w2 (w.heap.size + 1) #[.int .i64 r.x, .int .i64 r.y, .int .i64 r.w, .int .i64 r.h] 44) := ⟨H1.out.1.trans (hb2.mono H1.out.1.size), H1.out.2.1.below hb2, H1.out.2.2.below hb2⟩
  clear hb2 H1 a0 a1 a2 a3 a4 a5 a6 a7 a8 a9 a10 a11 a12 a13 a14 HD HE
  have cc := H2.out.2.1.cell
  have a0 := cc 0
  have a1 := cc 1
  have a2 := cc 2
  have a3 := cc 3
  have a4 := cc 4
  clear cc
  simp only [List.getElem?_toArray, List.getElem?_cons_zero, List.getElem?_cons_succ] at a0 a1 a2 a3 a4
  go_upto_region 5 with fail
  go_quiet (fail)
  go_upto_region 6 with fail
  clear a0 a1 a2 a3 a4
  have hbt := fun (m : Nat) (tt : Gw (w2.drewN m)) => (below_drewN (n := m) (Below.refl w2.heap.size w2)).trans tt.below
  have qa := fun (m : Nat) (tt : Gw (w2.drewN m)) => (H2.out.2.1.below (hbt m tt)).cell
  have a1 := fun (m : Nat) (tt : Gw (w2.drewN m)) => qa m tt 1
  have a2 := fun (m : Nat) (tt : Gw (w2.drewN m)) => qa m tt 2
  have a3 := fun (m : Nat) (tt : Gw (w2.drewN m)) => qa m tt 3
  have a4 := fun (m : Nat) (tt : Gw (w2.drewN m)) => qa m tt 4
  have ne := fun (m : Nat) => gw_ne (Below.refl 0 (w2.drewN m))
  clear qa
  simp only [List.getElem?_toArray, List.getElem?_cons_zero, List.getElem?_cons_succ] at a1 a2 a3 a4
  refine wp_region_gw (by kernel_rfl) (by kernel_rfl) ?_
  repeat (go_big_quiet_step (first
    | (go_at_call 52; exact gw_call (HRi.out _))
    | (go_at_call 53; exact gw_call (HBe.out _))))
  refine wpQuiet_nil ?_
  rintro _ ⟨tt, rfl⟩
  have H3 : Hid (Below w.heap.size w tt.wd ∧ Bk tt.wd (w.heap.size + 1) #[.int .i64 r.x, .int .i64 r.y, .int .i64 r.w, .int .i64 r.h] 44) := ⟨H2.out.1.trans ((hbt _ tt).mono H2.out.1.size), H2.out.2.2.below (hbt _ tt)⟩
  clear hbt H2 a1 a2 a3 a4 ne HRi HBe
  generalize tt.wd = w3 at *
  clear tt
  go_wp2_with fail
  refine (HF1.out _).mono ?_
  rintro e w4 ⟨rfl, hb4⟩
  have H4 : Hid (Below w.heap.size w w4 ∧ Bk w4 (w.heap.size + 1) #[.int .i64 r.x, .int .i64 r.y, .int .i64 r.w, .int .i64 r.h] 44) := ⟨H3.out.1.trans (hb4.mono H3.out.1.size), H3.out.2.below hb4⟩
  clear hb4 H3
  go_wp2_with fail
  refine (HF2.out _).mono ?_
  rintro e w5 ⟨rfl, hb5⟩
  have H5 : Hid (Below w.heap.size w w5 ∧ Bk w5 (w.heap.size + 1) #[.int .i64 r.x, .int .i64 r.y, .int .i64 r.w, .int .i64 r.h] 44) := ⟨H4.out.1.trans (hb5.mono H4.out.1.size), H4.out.2.below hb5⟩
  clear hb5 H4
  go_wp2_with fail
  refine (HF3.out _).mono ?_
  rintro e w6 ⟨rfl, hb6⟩
  have H6 : Hid (Below w.heap.size w w6 ∧ Bk w6 (w.heap.size + 1) #[.int .i64 r.x, .int .i64 r.y, .int .i64 r.w, .int .i64 r.h] 44) := ⟨H5.out.1.trans (hb6.mono H5.out.1.size), H5.out.2.below hb6⟩
  clear hb6 H5
  go_wp2_with fail
  refine (HF4.out _).mono ?_
  rintro e w7 ⟨rfl, hb7⟩
  have H7 : Hid (Below w.heap.size w w7 ∧ Bk w7 (w.heap.size + 1) #[.int .i64 r.x, .int .i64 r.y, .int .i64 r.w, .int .i64 r.h] 44) := ⟨H6.out.1.trans (hb7.mono H6.out.1.size), H6.out.2.below hb7⟩
  clear hb7 H6 HF1 HF2 HF3 HF4
  go_wp2_with fail
  obtain ⟨sb, hsb⟩ : ∃ sb, sb = w7.heap.size := ⟨_, rfl⟩
  have HSB : Hid (sb = w7.heap.size) := hsb
  obtain ⟨W0, hW0⟩ : ∃ W0, W0 = w7.alloc (.cells #[.int .i64 s1.x, .int .i64 s1.y, .int .i64 s1.w, .int .i64 s1.h, .int .i64 s2.x, .int .i64 s2.y, .int .i64 s2.w, .int .i64 s2.h, .int .i64 s3.x, .int .i64 s3.y, .int .i64 s3.w, .int .i64 s3.h, .int .i64 s4.x, .int .i64 s4.y, .int .i64 s4.w, .int .i64 s4.h] 44) := ⟨_, rfl⟩
  have H0 : Hid (LsR W0 (.slice (some ⟨sb, 0, none⟩) 4 4) [s1, s2, s3, s4] ∧ Below w.heap.size w W0 ∧ Bk W0 (w.heap.size + 1) #[.int .i64 r.x, .int .i64 r.y, .int .i64 r.w, .int .i64 r.h] 44 ∧ sb < W0.heap.size ∧ w.heap.size + 1 < W0.heap.size) := by
    have b1 : Below w7.heap.size w7 W0 := by rw [hW0]; exact (Below.refl _ _).alloc (Nat.le_refl _) _
    have k1 : Bk W0 sb #[.int .i64 s1.x, .int .i64 s1.y, .int .i64 s1.w, .int .i64 s1.h, .int .i64 s2.x, .int .i64 s2.y, .int .i64 s2.w, .int .i64 s2.h, .int .i64 s3.x, .int .i64 s3.y, .int .i64 s3.w, .int .i64 s3.h, .int .i64 s4.x, .int .i64 s4.y, .int .i64 s4.w, .int .i64 s4.h] 44 := by rw [hW0, hsb]; exact Bk.new _ _ _
    have k2 := H7.out.2.below b1
    refine ⟨lsr_own (base := 0) ⟨rfl, .inr ⟨sb, 4, _, rfl, Nat.zero_le _, k1, Nat.le_refl _, by unfold maxLen; show 4 ≤ _; decide, by simp, rfl⟩⟩, H7.out.1.trans (b1.mono H7.out.1.size), k2, k1.lt, k2.lt⟩
  rw [← hsb, ← hW0]
  clear hsb hW0 H7
  obtain ⟨B, hB⟩ : ∃ B, B = W0.heap.size := ⟨_, rfl⟩
  have HB : Hid (B = W0.heap.size) := hB
  have HI0 : Hid (OwR B W0 (.slice none 0 0) (frF r (([s1, s2, s3, s4] : List Rc).take 0)) ∧ Below B W0 W0) := ⟨OwR.nil _ _, Below.refl _ _⟩
  have HME : Hid (∀ (a : Rc) W, Calls Tryz.prog 42 #[.agg #[.int .i64 a.x, .int .i64 a.y, .int .i64 a.w, .int .i64 a.h], .agg #[.int .i64 r.x, .int .i64 r.y, .int .i64 r.w, .int .i64 r.h]] W fun e w' => e = .returned (.agg #[.int .i64 (zMe a r).x, .int .i64 (zMe a r).y, .int .i64 (zMe a r).w, .int .i64 (zMe a r).h]) ∧ Below W.heap.size W w') := fun a W => rmeet_any _ _ _ _ _ _ _ _ W
  have HEM : Hid (∀ (a : Rc) W, Calls Tryz.prog 43 #[.agg #[.int .i64 a.x, .int .i64 a.y, .int .i64 a.w, .int .i64 a.h]] W fun e w' => e = .returned (.bool (zEm a)) ∧ Below W.heap.size W w') := fun a W => rempty_any _ _ _ _ W
  obtain ⟨i0, hi, hz0, hz1, hz2⟩ := info_parts info_rect
  have hS4 : S.length = 4 := by rw [HS.out]; rfl
  rw [← HS.out] at H0 HI0
  clear hB HS g1 g2 g3 g4 g5 g6 g7 g8 z1 HSD
  go_loopw [9, 11] (fun u i wr => ∃ k : Nat, i = .int .i64 k ∧ k ≤ 4 ∧ Hid (OwR B wr u (frF r (S.take k)) ∧ Below B W0 wr)) (fun _ i _ => 4 - (intOf i).toNat)
  case atStart => exact ⟨0, rfl, by omega, HI0⟩
  case round =>
    clear HI0
    obtain ⟨k, rfl, hk, HK⟩ := hrel
    by_cases hlt : k < 4
    · have ik : (k : Int) < 4 := by omega
      have hkS : k < S.length := by omega
      have hsz : Hid (B ≤ wr.heap.size) := by have := HK.out.2.size; unfold Hid; rw [HB.out]; exact this
      have HRb : Hid (Bk wr (w.heap.size + 1) #[.int .i64 r.x, .int .i64 r.y, .int .i64 r.w, .int .i64 r.h] 44) := (HK.out.2.block _ (by rw [HB.out]; exact H0.out.2.2.2.2)).trans H0.out.2.2.1
      have HSk : Hid (RcAt wr sb (k * 4) S[k]) := by
        obtain ⟨oa, cap, e, _, hg⟩ := H0.out.1
        obtain ⟨g, o, e1, _, hat⟩ := hg (by omega)
        injection e with e2 _ _
        rw [e1] at e2
        injection e2 with e2
        injection e2 with e3 e4 _
        subst e3 e4
        have := hat k hkS
        rw [Nat.zero_add] at this
        exact this.kept fun j => HK.out.2.cell (p := ⟨sb, j, none⟩) (by rw [HB.out]; exact H0.out.2.2.2.1)
      have HT : Hid (frF r (S.take (k + 1)) = if zEm (zMe S[k] r) = true then frF r (S.take k) else frF r (S.take k) ++ [zMe S[k] r]) := by
        unfold Hid
        rw [← List.take_append_getElem hkS, frF_snoc]
      have hfl : Hid ((frF r (S.take k)).length ≤ 4) := by
        unfold Hid frF
        refine Nat.le_trans (List.length_filter_le _ _) ?_
        rw [List.length_map, List.length_take]
        omega
      generalize S[k] = x at *
      go_upto_region 12 with fail
      go_cut [12] (fun s12 wx => ∃ b12, s12 = .pointer (some ⟨b12, 0, none⟩) ∧ Hid (Bk wx b12 #[.int .i64 (zMe x r).x, .int .i64 (zMe x r).y, .int .i64 (zMe x r).w, .int .i64 (zMe x r).h] 44 ∧ Below wr.heap.size wr wx ∧ wr.heap.size ≤ b12))
      case first =>
        refine wp_region_lit 6 1 1 (fun _ => .cells #[.int .i64 0, .int .i64 0, .int .i64 0, .int .i64 0] 44) [12] (by kernel_rfl) (by kernel_rfl) rfl ?_ rfl ?_ ?_
        · intro k hk
          have hc : k = 0 := by omega
          subst hc; rfl
        · intro i h1 h2
          have hc : i = 6 := by omega
          subst hc
          exact ⟨_, rfl, rfl, fun _ _ => rfl⟩
        apply Exists.intro
        refine ⟨fun bs ne => ?_, ?_⟩
        · have q1 := fun tt : Gb wr bs => HSk.out.kept (w' := tt.wd) fun j => tt.below.cell (p := ⟨sb, j, none⟩) (Nat.lt_of_lt_of_le (show sb < B by rw [HB.out]; exact H0.out.2.2.2.1) hsz.out)
          have q2 := fun tt : Gb wr bs => (HRb.out.below tt.below).at4
          have d0 := fun tt : Gb wr bs => (q1 tt).1
          have d1 := fun tt : Gb wr bs => (q1 tt).2.1
          have d2 := fun tt : Gb wr bs => (q1 tt).2.2.1
          have d3 := fun tt : Gb wr bs => (q1 tt).2.2.2
          have e0 := fun tt : Gb wr bs => (q2 tt).1
          have e1 := fun tt : Gb wr bs => (q2 tt).2.1
          have e2 := fun tt : Gb wr bs => (q2 tt).2.2.1
          have e3 := fun tt : Gb wr bs => (q2 tt).2.2.2
          clear q1 q2
          simp only [List.take_succ_cons, List.take_zero]
          repeat (go_big_quiet_step (first
            | (go_at_call 42; exact gb_call (HME.out x _))))
          exact wpQuiet_nil rfl
        · intro bl wx hbl hlo hinj
          obtain ⟨k1, k2⟩ := hlo 6 (by omega) (by omega)
          simp only [layL, ptr]
          generalize bl 6 = b12 at *
          have hB12 : Bk wx b12 #[.int .i64 0, .int .i64 0, .int .i64 0, .int .i64 0] 44 := k2
          obtain ⟨c0, c1, c2, c3⟩ := hB12.at4
          have f0 := hB12.frozen
          have hl12 := hB12.lt
          have HRel : Hid (Bk ((((wx.setCell ⟨b12, 0, none⟩ (.int .i64 (zMe x r).x)).setCell ⟨b12, 1, none⟩ (.int .i64 (zMe x r).y)).setCell ⟨b12, 2, none⟩ (.int .i64 (zMe x r).w)).setCell ⟨b12, 3, none⟩ (.int .i64 (zMe x r).h)) b12 #[.int .i64 (zMe x r).x, .int .i64 (zMe x r).y, .int .i64 (zMe x r).w, .int .i64 (zMe x r).h] 44 ∧ Below wr.heap.size wr ((((wx.setCell ⟨b12, 0, none⟩ (.int .i64 (zMe x r).x)).setCell ⟨b12, 1, none⟩ (.int .i64 (zMe x r).y)).setCell ⟨b12, 2, none⟩ (.int .i64 (zMe x r).w)).setCell ⟨b12, 3, none⟩ (.int .i64 (zMe x r).h)) ∧ wr.heap.size ≤ b12) := ⟨hB12.put4 _ _ _ _, below_put4 hbl k1 _ _ _ _, k1⟩
          clear hlo hinj k1 k2 hbl hB12
          refine wpAny_one 7 (by kernel_rfl) rfl ?_
          intro K hK
          go_simp
          refine hK _ _ ?_
          clear hK K
          refine wpAny_done (by kernel_rfl) ?_ _
          go_wp2_with fail
          go_meet
          exact ⟨b12, rfl, HRel⟩
      case rest =>
        obtain ⟨b12, rfl, H1⟩ := hcut
        obtain ⟨c0, c1, c2, c3⟩ := H1.out.1.at4
        go_wp2_with fail
        refine (HEM.out (zMe x r) _).mono ?_
        rintro e w2' ⟨rfl, hb2⟩
        have H2 : Hid (Bk w2' b12 #[.int .i64 (zMe x r).x, .int .i64 (zMe x r).y, .int .i64 (zMe x r).w, .int .i64 (zMe x r).h] 44 ∧ OwR B w2' u9 (frF r (S.take k)) ∧ Below B W0 w2' ∧ B ≤ w2'.heap.size) := by
          have b1 : Below wr.heap.size wr w2' := H1.out.2.1.trans (hb2.mono H1.out.2.1.size)
          exact ⟨H1.out.1.below hb2, HK.out.1.below b1, HK.out.2.trans (b1.mono hsz.out), Nat.le_trans hsz.out b1.size⟩
        clear hb2 H1 c0 c1 c2 c3 HK
        generalize hze : zEm (zMe x r) = em at *
        clear hze
        cases em with
        | true =>
          have HRel : Hid (OwR B w2' u9 (frF r (S.take (k + 1))) ∧ Below B W0 w2') := by
            rw [HT.out, if_pos (by simp)]
            exact ⟨H2.out.2.1, H2.out.2.2.1⟩
          clear H2 HT
          go_wp2
          go_roundw
          case rel => exact ⟨k + 1, by go_num, by omega, HRel⟩
          case measure => simp [intOf]; omega
        | false =>
          obtain ⟨F, hF⟩ : ∃ F, F = frF r (S.take k) := ⟨_, rfl⟩
          obtain ⟨m, hm⟩ : ∃ m, m = F.length := ⟨_, rfl⟩
          have HFm : Hid (F = frF r (S.take k) ∧ m = F.length) := ⟨hF, hm⟩
          have hm4 : m ≤ 4 := by rw [hm, hF]; exact hfl.out
          have HT2 : Hid (frF r (S.take (k + 1)) = F ++ [zMe x r]) := by
            have h := HT.out
            rw [if_neg (by simp), ← hF] at h
            exact h
          have HO : Hid (OwR B w2' u9 F) := by rw [hF]; exact H2.out.2.1
          have HA : Hid (∀ o, (w2'.alloc o).ownsRow B 44 4 u9 m (flat F) ∧ B ≤ (w2'.alloc o).heap.size) := fun o => by
            have h := HO.out
            unfold OwR at h
            rw [← HFm.out.2] at h
            exact ⟨row_below h ((Below.refl _ _).alloc (Nat.le_refl _) _), by have := H2.out.2.2.2; simp; omega⟩
          have hc3 : Hid (m + 1 ≤ maxLen) := by unfold Hid maxLen; omega
          have hc4 : Hid ((m + 1) * 32 ≤ 140737488355328) := by unfold Hid; omega
          obtain ⟨d0, d1, d2, d3⟩ := H2.out.1.at4
          clear hF hm HT
          generalize zMe x r = y at *
          go_wp2_with (at_builtin; refine wpList_append_lies _ rfl _ _ 25 rfl B 44 i0 (.agg #[.int .i64 0, .int .i64 0, .int .i64 0, .int .i64 0]) 4 32 Tryz.underlying25 hi hz0 hz1 hz2 rfl (by decide) u9 m (flat F) rfl (HA.out _).1 _ 1 1 [.int .i64 y.x, .int .i64 y.y, .int .i64 y.w, .int .i64 y.h] rfl rfl (cell_fourB _ _ _ _ _ _ _ rfl) (one4 y) (by decide) hc3.out hc4.out (HA.out _).2 _ rfl ?_)
          intro g4 cap4 w4 hown' hgrow hlies hg4
          have HRel : Hid (OwR B w4 (.slice (some ⟨g4, 0, none⟩) (m + 1) cap4) (frF r (S.take (k + 1))) ∧ Below B W0 w4) := by
            have b3 : Below B W0 (w2'.alloc (.cells #[.int .i64 y.x, .int .i64 y.y, .int .i64 y.w, .int .i64 y.h] 44)) := H2.out.2.2.1.alloc H2.out.2.2.2 _
            have b4 : Below B W0 w4 := b3.grown hgrow (HA.out _).2 (fun g hg => (row_lt (HA.out (.cells #[.int .i64 y.x, .int .i64 y.y, .int .i64 y.w, .int .i64 y.h] 44)).1 g hg).1)
            rw [HT2.out]
            exact ⟨snocR HFm.out.2 hown', b4⟩
          clear hown' hgrow hlies hg4 HA H2 HO d0 d1 d2 d3
          go_wp2
          go_roundw
          case rel => exact ⟨k + 1, by go_num, by omega, HRel⟩
          case measure => simp [intOf]; omega
    · obtain rfl : k = 4 := by omega
      have HF : Hid (OwR w.heap.size wr u9 (frF r S) ∧ Below w.heap.size w wr) := by
        obtain ⟨a1, a2⟩ := HK.out
        rw [List.take_of_length_le (by omega)] at a1
        rw [HB.out] at a2 a1
        exact ⟨a1.weaken H0.out.2.1.size, H0.out.2.1.trans (a2.mono H0.out.2.1.size)⟩
      clear HK
      go_wp2
      go_ret
      exact ⟨_, rfl, HF.out⟩

theorem zplaces_any (s : St) (r : Rc) (w : World) (hk : s.k = 1 ∨ s.k = 2 ∨ s.k = 3 ∨ s.k = 4 ∨ s.k = 5) (hm : zMa s.r = true) :
    Calls Tryz.prog 29 #[(Value.agg #[.int .u8 s.k, .int .i64 s.r.x, .int .i64 s.r.y, .int .i64 s.r.w, .int .i64 s.r.h, .int .u8 s.c.r, .int .u8 s.c.g, .int .u8 s.c.b, .int .u8 s.c.a, .int .u8 s.b.r, .int .u8 s.b.g, .int .u8 s.b.b, .int .u8 s.b.a, .string s.t, .int .i64 s.n]), .agg #[.int .i64 r.x, .int .i64 r.y, .int .i64 r.w, .int .i64 r.h]] w fun e w' => AnsP w (plc s r) e w' := by
  obtain ⟨K, q, c, b, t, n⟩ := s
  cases he : zEm r
  · have hk : K = 1 ∨ K = 2 ∨ K = 3 ∨ K = 4 ∨ K = 5 := hk
    unfold plc noP drw
    rw [he]
    rcases hk with rfl | rfl | rfl | rfl | rfl
    · have h := plc_one q c b t n r w he
      by_cases hz : c.a = 0
      · simpa [hz] using h
      · simpa [hz] using h
    · by_cases hz : c.a = 0
      · simpa [hz] using plc_two0 q c b t n r w he hz
      · have h := plc_frame q c b t n r w he hz hm
        simpa [hz, frF] using h
    · have h := plc_three q c b t n r w he
      by_cases hz : t.size = 0
      · simpa [hz] using h
      · simpa [hz] using h
    · have h := plc_four q c b t n r w he
      simpa using h
    · have h := plc_five q c b t n r w he
      simpa using h
  · have e : plc ⟨K, q, c, b, t, n⟩ r = [] := by unfold plc noP; rw [he]; rfl
    rw [e]
    exact plc_em _ r w he

end Go.Proofs.YtbghjmkgicdnoaaGreat

/-
  Contracts of the document's answer for layer 13: do places lie in a rectangle, has it one of them?
-/
namespace Go.Proofs.YtbghjmkgicdnoaaGreat
open Go.RowKit

set_option maxRecDepth 20000 in
set_option maxHeartbeats 4000000 in
theorem zin_any (rs : List Rc) (r : Rc) (v : Value) (w : World) (hv : LsR w v rs) (hl : rs.length < 1000000) :
    Calls Tryz.prog 36 #[v, .agg #[.int .i64 r.x, .int .i64 r.y, .int .i64 r.w, .int .i64 r.h]] w fun e w' => e = .returned (.bool (rs.all fun a => zIn a r)) ∧ Below w.heap.size w w' := by
  obtain ⟨oa, cap, rfl, hc, hg⟩ := hv
  have HG : Hid (0 < rs.length → ∃ g o, oa = some ⟨g, o, none⟩ ∧ g < w.heap.size ∧ ∀ i (h : i < rs.length), RcAt w g (o + i * 4) rs[i]) := hg
  obtain ⟨R, HR⟩ : ∃ R, Hid ((rs.all fun a => zIn a r) = R) := ⟨_, rfl⟩
  rw [HR.out]
  have HIn : Hid (∀ (a : Rc) W, Calls Tryz.prog 67 #[.agg #[.int .i64 a.x, .int .i64 a.y, .int .i64 a.w, .int .i64 a.h], .agg #[.int .i64 r.x, .int .i64 r.y, .int .i64 r.w, .int .i64 r.h]] W fun e w' => e = .returned (.bool (zIn a r)) ∧ Below W.heap.size W w') := fun a W => rin_any _ _ _ _ _ _ _ _ W
  obtain ⟨bx, hbx⟩ : ∃ bx, bx = w.heap.size := ⟨_, rfl⟩
  have HB : Hid (bx = w.heap.size) := hbx
  have H0 : Hid (Bk (w.alloc (.cells #[.int .i64 r.x, .int .i64 r.y, .int .i64 r.w, .int .i64 r.h] 44)) bx #[.int .i64 r.x, .int .i64 r.y, .int .i64 r.w, .int .i64 r.h] 44 ∧ Below w.heap.size w (w.alloc (.cells #[.int .i64 r.x, .int .i64 r.y, .int .i64 r.w, .int .i64 r.h] 44))) := ⟨by rw [hbx]; exact Bk.new _ _ _, (Below.refl _ _).alloc (Nat.le_refl _) _⟩
  clear hg
  go_enter Tryz.func36, Tryz.ntmps36
  go_wp2_with fail
  rw [← hbx]
  clear hbx
  generalize w.alloc (.cells #[.int .i64 r.x, .int .i64 r.y, .int .i64 r.w, .int .i64 r.h] 44) = W0 at *
  go_loopw [5] (fun i wr => ∃ k : Nat, i = .int .i64 k ∧ k ≤ rs.length ∧ Hid ((rs.take k).all (fun a => zIn a r) = true ∧ Bk wr bx #[.int .i64 r.x, .int .i64 r.y, .int .i64 r.w, .int .i64 r.h] 44 ∧ Below w.heap.size w wr)) (fun i _ => rs.length - (intOf i).toNat)
  case atStart => exact ⟨0, rfl, Nat.zero_le _, rfl, H0.out.1, H0.out.2⟩
  case round =>
    clear H0
    obtain ⟨k, rfl, hk, HK⟩ := hrel
    by_cases hlt : k < rs.length
    · have ik : (k : Int) < rs.length := by omega
      obtain ⟨g, o, rfl, hg, hat⟩ := HG.out (by omega)
      have qx := fun t : Gw wr => (hat k hlt).kept (w' := t.wd) fun j => (HK.out.2.2.trans (t.below.mono HK.out.2.2.size)).cell (p := ⟨g, j, none⟩) hg
      have qb := fun t : Gw wr => (HK.out.2.1.below t.below).at4
      have ne := gw_ne HK.out.2.2
      have HT : Hid ((rs.take (k + 1)).all (fun a => zIn a r) = zIn rs[k] r) := by
        unfold Hid
        rw [← List.take_append_getElem hlt, List.all_append, HK.out.1]
        simp
      have HF : Hid (zIn rs[k] r = false → R = false) := fun h => by
        rw [← HR.out, List.all_eq_false]
        exact ⟨rs[k], List.getElem_mem hlt, by rw [h]; simp⟩
      clear hat
      generalize rs[k] = x at *
      have x0 := fun t : Gw wr => (qx t).1
      have x1 := fun t : Gw wr => (qx t).2.1
      have x2 := fun t : Gw wr => (qx t).2.2.1
      have x3 := fun t : Gw wr => (qx t).2.2.2
      have b0 := fun t : Gw wr => (qb t).1
      have b1 := fun t : Gw wr => (qb t).2.1
      have b2 := fun t : Gw wr => (qb t).2.2.1
      have b3 := fun t : Gw wr => (qb t).2.2.2
      have HC : Hid (∀ W, Calls Tryz.prog 67 #[.agg #[.int .i64 x.x, .int .i64 x.y, .int .i64 x.w, .int .i64 x.h], .agg #[.int .i64 r.x, .int .i64 r.y, .int .i64 r.w, .int .i64 r.h]] W fun e w' => e = .returned (.bool (zIn x r)) ∧ Below W.heap.size W w') := HIn.out x
      clear qx qb
      generalize zIn x r = b at *
      cases b
      · have hR : R = false := HF.out rfl
        subst hR
        have H1 : Hid (Below w.heap.size w wr) := HK.out.2.2
        clear HK HT HF
        go_wp2_with fail
        refine wp_region_gw (by kernel_rfl) (by kernel_rfl) ?_
        repeat (go_big_quiet_step (first
          | (go_at_call 67; exact gw_call (HC.out _))))
        refine wpQuiet_nil ?_
        rintro _ ⟨t, rfl⟩
        go_wp2
        go_ret
        exact ⟨rfl, H1.out.trans (t.below.mono H1.out.size)⟩
      · have HK2 : Hid ((rs.take (k + 1)).all (fun a => zIn a r) = true ∧ Bk wr bx #[.int .i64 r.x, .int .i64 r.y, .int .i64 r.w, .int .i64 r.h] 44 ∧ Below w.heap.size w wr) := ⟨HT.out, HK.out.2.1, HK.out.2.2⟩
        clear HK HT HF
        go_wp2_with fail
        refine wp_region_gw (by kernel_rfl) (by kernel_rfl) ?_
        repeat (go_big_quiet_step (first
          | (go_at_call 67; exact gw_call (HC.out _))))
        refine wpQuiet_nil ?_
        rintro _ ⟨t, rfl⟩
        go_wp2_with fail
        go_roundw
        case rel => exact ⟨k + 1, by go_num, by omega, HK2.out.1, HK2.out.2.1.below t.below, HK2.out.2.2.trans (t.below.mono HK2.out.2.2.size)⟩
        case measure => simp [intOf]; omega
    · obtain rfl : k = rs.length := by omega
      have hR : R = true := by
        have h := HK.out.1
        rw [List.take_length] at h
        rw [← HR.out, h]
      subst hR
      have H1 : Hid (Below w.heap.size w wr) := HK.out.2.2
      clear HK
      go_wp2
      go_ret
      exact ⟨rfl, H1.out⟩

set_option maxRecDepth 20000 in
set_option maxHeartbeats 4000000 in
theorem zover_any (rs : List Rc) (r : Rc) (v : Value) (w : World) (hv : LsR w v rs) (hl : rs.length < 1000000) :
    Calls Tryz.prog 39 #[v, .agg #[.int .i64 r.x, .int .i64 r.y, .int .i64 r.w, .int .i64 r.h]] w fun e w' => e = .returned (.bool (rs.any fun a => zOv a r)) ∧ Below w.heap.size w w' := by
  obtain ⟨oa, cap, rfl, hc, hg⟩ := hv
  have HG : Hid (0 < rs.length → ∃ g o, oa = some ⟨g, o, none⟩ ∧ g < w.heap.size ∧ ∀ i (h : i < rs.length), RcAt w g (o + i * 4) rs[i]) := hg
  obtain ⟨R, HR⟩ : ∃ R, Hid ((rs.any fun a => zOv a r) = R) := ⟨_, rfl⟩
  rw [HR.out]
  have HIn : Hid (∀ (a : Rc) W, Calls Tryz.prog 70 #[.agg #[.int .i64 a.x, .int .i64 a.y, .int .i64 a.w, .int .i64 a.h], .agg #[.int .i64 r.x, .int .i64 r.y, .int .i64 r.w, .int .i64 r.h]] W fun e w' => e = .returned (.bool (zOv a r)) ∧ Below W.heap.size W w') := fun a W => rover_any _ _ _ _ _ _ _ _ W
  obtain ⟨bx, hbx⟩ : ∃ bx, bx = w.heap.size := ⟨_, rfl⟩
  have HB : Hid (bx = w.heap.size) := hbx
  have H0 : Hid (Bk (w.alloc (.cells #[.int .i64 r.x, .int .i64 r.y, .int .i64 r.w, .int .i64 r.h] 44)) bx #[.int .i64 r.x, .int .i64 r.y, .int .i64 r.w, .int .i64 r.h] 44 ∧ Below w.heap.size w (w.alloc (.cells #[.int .i64 r.x, .int .i64 r.y, .int .i64 r.w, .int .i64 r.h] 44))) := ⟨by rw [hbx]; exact Bk.new _ _ _, (Below.refl _ _).alloc (Nat.le_refl _) _⟩
  clear hg
  go_enter Tryz.func39, Tryz.ntmps39
  go_wp2_with fail
  rw [← hbx]
  clear hbx
  generalize w.alloc (.cells #[.int .i64 r.x, .int .i64 r.y, .int .i64 r.w, .int .i64 r.h] 44) = W0 at *
  go_loopw [5] (fun i wr => ∃ k : Nat, i = .int .i64 k ∧ k ≤ rs.length ∧ Hid ((rs.take k).any (fun a => zOv a r) = false ∧ Bk wr bx #[.int .i64 r.x, .int .i64 r.y, .int .i64 r.w, .int .i64 r.h] 44 ∧ Below w.heap.size w wr)) (fun i _ => rs.length - (intOf i).toNat)
  case atStart => exact ⟨0, rfl, Nat.zero_le _, rfl, H0.out.1, H0.out.2⟩
  case round =>
    clear H0
    obtain ⟨k, rfl, hk, HK⟩ := hrel
    by_cases hlt : k < rs.length
    · have ik : (k : Int) < rs.length := by omega
      obtain ⟨g, o, rfl, hg, hat⟩ := HG.out (by omega)
      have qx := fun t : Gw wr => (hat k hlt).kept (w' := t.wd) fun j => (HK.out.2.2.trans (t.below.mono HK.out.2.2.size)).cell (p := ⟨g, j, none⟩) hg
      have qb := fun t : Gw wr => (HK.out.2.1.below t.below).at4
      have ne := gw_ne HK.out.2.2
      have HT : Hid ((rs.take (k + 1)).any (fun a => zOv a r) = zOv rs[k] r) := by
        unfold Hid
        rw [← List.take_append_getElem hlt, List.any_append, HK.out.1]
        simp
      have HF : Hid (zOv rs[k] r = true → R = true) := fun h => by
        rw [← HR.out, List.any_eq_true]
        exact ⟨rs[k], List.getElem_mem hlt, h⟩
      clear hat
      generalize rs[k] = x at *
      have x0 := fun t : Gw wr => (qx t).1
      have x1 := fun t : Gw wr => (qx t).2.1
      have x2 := fun t : Gw wr => (qx t).2.2.1
      have x3 := fun t : Gw wr => (qx t).2.2.2
      have b0 := fun t : Gw wr => (qb t).1
      have b1 := fun t : Gw wr => (qb t).2.1
      have b2 := fun t : Gw wr => (qb t).2.2.1
      have b3 := fun t : Gw wr => (qb t).2.2.2
      have HC : Hid (∀ W, Calls Tryz.prog 70 #[.agg #[.int .i64 x.x, .int .i64 x.y, .int .i64 x.w, .int .i64 x.h], .agg #[.int .i64 r.x, .int .i64 r.y, .int .i64 r.w, .int .i64 r.h]] W fun e w' => e = .returned (.bool (zOv x r)) ∧ Below W.heap.size W w') := HIn.out x
      clear qx qb
      generalize zOv x r = b at *
      cases b
      · have HK2 : Hid ((rs.take (k + 1)).any (fun a => zOv a r) = false ∧ Bk wr bx #[.int .i64 r.x, .int .i64 r.y, .int .i64 r.w, .int .i64 r.h] 44 ∧ Below w.heap.size w wr) := ⟨HT.out, HK.out.2.1, HK.out.2.2⟩
        clear HK HT HF
        go_wp2_with fail
        refine wp_region_gw (by kernel_rfl) (by kernel_rfl) ?_
        repeat (go_big_quiet_step (first
          | (go_at_call 70; exact gw_call (HC.out _))))
        refine wpQuiet_nil ?_
        rintro _ ⟨t, rfl⟩
        go_wp2_with fail
        go_roundw
        case rel => exact ⟨k + 1, by go_num, by omega, HK2.out.1, HK2.out.2.1.below t.below, HK2.out.2.2.trans (t.below.mono HK2.out.2.2.size)⟩
        case measure => simp [intOf]; omega
      · have hR : R = true := HF.out rfl
        subst hR
        have H1 : Hid (Below w.heap.size w wr) := HK.out.2.2
        clear HK HT HF
        go_wp2_with fail
        refine wp_region_gw (by kernel_rfl) (by kernel_rfl) ?_
        repeat (go_big_quiet_step (first
          | (go_at_call 70; exact gw_call (HC.out _))))
        refine wpQuiet_nil ?_
        rintro _ ⟨t, rfl⟩
        go_wp2
        go_ret
        exact ⟨rfl, H1.out.trans (t.below.mono H1.out.size)⟩
    · obtain rfl : k = rs.length := by omega
      have hR : R = false := by
        have h := HK.out.1
        rw [List.take_length] at h
        rw [← HR.out, h]
      subst hR
      have H1 : Hid (Below w.heap.size w wr) := HK.out.2.2
      clear HK
      go_wp2
      go_ret
      exact ⟨rfl, H1.out⟩

end Go.Proofs.YtbghjmkgicdnoaaGreat
