/-
  Contracts of the document's answer for layer 13: the places at which a stroke shows.
-/
import Derived.Test.YtbghjmkgicdnoaaGreatK14
import Derived.Test.YtbghjmkgicdnoaaGreatK12
namespace Go.Proofs.YtbghjmkgicdnoaaGreat
open Go.RowKit

theorem own_one {lo : Nat} {W : World} {b : Nat} {r : Rc} (h : Bk W b #[.int .i64 r.x, .int .i64 r.y, .int .i64 r.w, .int .i64 r.h] 44) (hb : lo ≤ b) : OwR lo W (.slice (some ⟨b, 0, none⟩) 1 1) [r] :=
  ⟨rfl, .inr ⟨b, 1, _, rfl, hb, h, Nat.le_refl _, by unfold maxLen; omega, by simp, rfl⟩⟩
/-- What is answered: rectangles of one's own. -/
def AnsP (w : World) (L : List Rc) (e : Ending) (w' : World) : Prop := ∃ u, e = .returned u ∧ OwR w.heap.size w' u L ∧ Below w.heap.size w w'

set_option maxRecDepth 20000 in
set_option maxHeartbeats 4000000 in
theorem plc_em (s : St) (r : Rc) (w : World) (h : zEm r = true) :
    Calls Tryz.prog 29 #[(Value.agg #[.int .u8 s.k, .int .i64 s.r.x, .int .i64 s.r.y, .int .i64 s.r.w, .int .i64 s.r.h, .int .u8 s.c.r, .int .u8 s.c.g, .int .u8 s.c.b, .int .u8 s.c.a, .int .u8 s.b.r, .int .u8 s.b.g, .int .u8 s.b.b, .int .u8 s.b.a, .string s.t, .int .i64 s.n]), .agg #[.int .i64 r.x, .int .i64 r.y, .int .i64 r.w, .int .i64 r.h]] w fun e w' => AnsP w [] e w' := by
  have HL : Hid (∀ c d, Below w.heap.size w ((w.alloc c).alloc d)) := fun c d => ((Below.refl _ w).alloc (Nat.le_refl _) _).alloc (by simp) _
  have HE : Hid (∀ W, Calls Tryz.prog 43 #[.agg #[.int .i64 r.x, .int .i64 r.y, .int .i64 r.w, .int .i64 r.h]] W fun e w' => e = .returned (.bool true) ∧ Below W.heap.size W w') := fun W => by rw [← h]; exact rempty_any _ _ _ _ W
  clear h
  go_enter Tryz.func29, Tryz.ntmps29
  go_wp2_with fail
  refine (HE.out _).mono ?_
  rintro e w1 ⟨rfl, hb1⟩
  have H1 : Hid (Below w.heap.size w w1) := (HL.out _ _).trans (hb1.mono (HL.out _ _).size)
  clear hb1
  go_wp2
  go_ret
  exact ⟨_, rfl, OwR.nil _ _, H1.out⟩

set_option maxRecDepth 20000 in
set_option maxHeartbeats 4000000 in
theorem plc_three (q : Rc) (c b : Co) (t : ByteArray) (n : Int) (r : Rc) (w : World) (h : zEm r = false) :
    Calls Tryz.prog 29 #[(Value.agg #[.int .u8 (⟨3, q, c, b, t, n⟩ : St).k, .int .i64 (⟨3, q, c, b, t, n⟩ : St).r.x, .int .i64 (⟨3, q, c, b, t, n⟩ : St).r.y, .int .i64 (⟨3, q, c, b, t, n⟩ : St).r.w, .int .i64 (⟨3, q, c, b, t, n⟩ : St).r.h, .int .u8 (⟨3, q, c, b, t, n⟩ : St).c.r, .int .u8 (⟨3, q, c, b, t, n⟩ : St).c.g, .int .u8 (⟨3, q, c, b, t, n⟩ : St).c.b, .int .u8 (⟨3, q, c, b, t, n⟩ : St).c.a, .int .u8 (⟨3, q, c, b, t, n⟩ : St).b.r, .int .u8 (⟨3, q, c, b, t, n⟩ : St).b.g, .int .u8 (⟨3, q, c, b, t, n⟩ : St).b.b, .int .u8 (⟨3, q, c, b, t, n⟩ : St).b.a, .string (⟨3, q, c, b, t, n⟩ : St).t, .int .i64 (⟨3, q, c, b, t, n⟩ : St).n]), .agg #[.int .i64 r.x, .int .i64 r.y, .int .i64 r.w, .int .i64 r.h]] w fun e w' => AnsP w (if t.size = 0 then [] else [r]) e w' := by
  have HL : Hid (∀ c d, Below w.heap.size w ((w.alloc c).alloc d)) := fun c d => ((Below.refl _ w).alloc (Nat.le_refl _) _).alloc (by simp) _
  have HE : Hid (∀ W, Calls Tryz.prog 43 #[.agg #[.int .i64 r.x, .int .i64 r.y, .int .i64 r.w, .int .i64 r.h]] W fun e w' => e = .returned (.bool false) ∧ Below W.heap.size W w') := fun W => by rw [← h]; exact rempty_any _ _ _ _ W
  have A : Bk ((w.alloc (.cells (#[.int .u8 (⟨3, q, c, b, t, n⟩ : St).k, .int .i64 (⟨3, q, c, b, t, n⟩ : St).r.x, .int .i64 (⟨3, q, c, b, t, n⟩ : St).r.y, .int .i64 (⟨3, q, c, b, t, n⟩ : St).r.w, .int .i64 (⟨3, q, c, b, t, n⟩ : St).r.h, .int .u8 (⟨3, q, c, b, t, n⟩ : St).c.r, .int .u8 (⟨3, q, c, b, t, n⟩ : St).c.g, .int .u8 (⟨3, q, c, b, t, n⟩ : St).c.b, .int .u8 (⟨3, q, c, b, t, n⟩ : St).c.a, .int .u8 (⟨3, q, c, b, t, n⟩ : St).b.r, .int .u8 (⟨3, q, c, b, t, n⟩ : St).b.g, .int .u8 (⟨3, q, c, b, t, n⟩ : St).b.b, .int .u8 (⟨3, q, c, b, t, n⟩ : St).b.a, .string (⟨3, q, c, b, t, n⟩ : St).t, .int .i64 (⟨3, q, c, b, t, n⟩ : St).n]) 48)).alloc (.cells #[.int .i64 r.x, .int .i64 r.y, .int .i64 r.w, .int .i64 r.h] 44)) w.heap.size (#[.int .u8 (⟨3, q, c, b, t, n⟩ : St).k, .int .i64 (⟨3, q, c, b, t, n⟩ : St).r.x, .int .i64 (⟨3, q, c, b, t, n⟩ : St).r.y, .int .i64 (⟨3, q, c, b, t, n⟩ : St).r.w, .int .i64 (⟨3, q, c, b, t, n⟩ : St).r.h, .int .u8 (⟨3, q, c, b, t, n⟩ : St).c.r, .int .u8 (⟨3, q, c, b, t, n⟩ : St).c.g, .int .u8 (⟨3, q, c, b, t, n⟩ : St).c.b, .int .u8 (⟨3, q, c, b, t, n⟩ : St).c.a, .int .u8 (⟨3, q, c, b, t, n⟩ : St).b.r, .int .u8 (⟨3, q, c, b, t, n⟩ : St).b.g, .int .u8 (⟨3, q, c, b, t, n⟩ : St).b.b, .int .u8 (⟨3, q, c, b, t, n⟩ : St).b.a, .string (⟨3, q, c, b, t, n⟩ : St).t, .int .i64 (⟨3, q, c, b, t, n⟩ : St).n]) 48 := (Bk.new w _ _).below ((Below.refl _ _).alloc (Nat.le_refl _) _)
  have B : Bk ((w.alloc (.cells (#[.int .u8 (⟨3, q, c, b, t, n⟩ : St).k, .int .i64 (⟨3, q, c, b, t, n⟩ : St).r.x, .int .i64 (⟨3, q, c, b, t, n⟩ : St).r.y, .int .i64 (⟨3, q, c, b, t, n⟩ : St).r.w, .int .i64 (⟨3, q, c, b, t, n⟩ : St).r.h, .int .u8 (⟨3, q, c, b, t, n⟩ : St).c.r, .int .u8 (⟨3, q, c, b, t, n⟩ : St).c.g, .int .u8 (⟨3, q, c, b, t, n⟩ : St).c.b, .int .u8 (⟨3, q, c, b, t, n⟩ : St).c.a, .int .u8 (⟨3, q, c, b, t, n⟩ : St).b.r, .int .u8 (⟨3, q, c, b, t, n⟩ : St).b.g, .int .u8 (⟨3, q, c, b, t, n⟩ : St).b.b, .int .u8 (⟨3, q, c, b, t, n⟩ : St).b.a, .string (⟨3, q, c, b, t, n⟩ : St).t, .int .i64 (⟨3, q, c, b, t, n⟩ : St).n]) 48)).alloc (.cells #[.int .i64 r.x, .int .i64 r.y, .int .i64 r.w, .int .i64 r.h] 44)) (w.heap.size + 1) #[.int .i64 r.x, .int .i64 r.y, .int .i64 r.w, .int .i64 r.h] 44 := by have := Bk.new (w.alloc (.cells (#[.int .u8 (⟨3, q, c, b, t, n⟩ : St).k, .int .i64 (⟨3, q, c, b, t, n⟩ : St).r.x, .int .i64 (⟨3, q, c, b, t, n⟩ : St).r.y, .int .i64 (⟨3, q, c, b, t, n⟩ : St).r.w, .int .i64 (⟨3, q, c, b, t, n⟩ : St).r.h, .int .u8 (⟨3, q, c, b, t, n⟩ : St).c.r, .int .u8 (⟨3, q, c, b, t, n⟩ : St).c.g, .int .u8 (⟨3, q, c, b, t, n⟩ : St).c.b, .int .u8 (⟨3, q, c, b, t, n⟩ : St).c.a, .int .u8 (⟨3, q, c, b, t, n⟩ : St).b.r, .int .u8 (⟨3, q, c, b, t, n⟩ : St).b.g, .int .u8 (⟨3, q, c, b, t, n⟩ : St).b.b, .int .u8 (⟨3, q, c, b, t, n⟩ : St).b.a, .string (⟨3, q, c, b, t, n⟩ : St).t, .int .i64 (⟨3, q, c, b, t, n⟩ : St).n]) 48)) #[.int .i64 r.x, .int .i64 r.y, .int .i64 r.w, .int .i64 r.h] 44; simpa using this
  have HD : Hid (∀ W, Calls Tryz.prog 25 #[(Value.agg #[.int .u8 (⟨3, q, c, b, t, n⟩ : St).k, .int .i64 (⟨3, q, c, b, t, n⟩ : St).r.x, .int .i64 (⟨3, q, c, b, t, n⟩ : St).r.y, .int .i64 (⟨3, q, c, b, t, n⟩ : St).r.w, .int .i64 (⟨3, q, c, b, t, n⟩ : St).r.h, .int .u8 (⟨3, q, c, b, t, n⟩ : St).c.r, .int .u8 (⟨3, q, c, b, t, n⟩ : St).c.g, .int .u8 (⟨3, q, c, b, t, n⟩ : St).c.b, .int .u8 (⟨3, q, c, b, t, n⟩ : St).c.a, .int .u8 (⟨3, q, c, b, t, n⟩ : St).b.r, .int .u8 (⟨3, q, c, b, t, n⟩ : St).b.g, .int .u8 (⟨3, q, c, b, t, n⟩ : St).b.b, .int .u8 (⟨3, q, c, b, t, n⟩ : St).b.a, .string (⟨3, q, c, b, t, n⟩ : St).t, .int .i64 (⟨3, q, c, b, t, n⟩ : St).n])] W fun e w' => e = .returned (.bool true) ∧ Below W.heap.size W w') := fun W => zdraws_any (⟨3, q, c, b, t, n⟩ : St) W
  have HAB : Hid (Bk ((w.alloc (.cells (#[.int .u8 (⟨3, q, c, b, t, n⟩ : St).k, .int .i64 (⟨3, q, c, b, t, n⟩ : St).r.x, .int .i64 (⟨3, q, c, b, t, n⟩ : St).r.y, .int .i64 (⟨3, q, c, b, t, n⟩ : St).r.w, .int .i64 (⟨3, q, c, b, t, n⟩ : St).r.h, .int .u8 (⟨3, q, c, b, t, n⟩ : St).c.r, .int .u8 (⟨3, q, c, b, t, n⟩ : St).c.g, .int .u8 (⟨3, q, c, b, t, n⟩ : St).c.b, .int .u8 (⟨3, q, c, b, t, n⟩ : St).c.a, .int .u8 (⟨3, q, c, b, t, n⟩ : St).b.r, .int .u8 (⟨3, q, c, b, t, n⟩ : St).b.g, .int .u8 (⟨3, q, c, b, t, n⟩ : St).b.b, .int .u8 (⟨3, q, c, b, t, n⟩ : St).b.a, .string (⟨3, q, c, b, t, n⟩ : St).t, .int .i64 (⟨3, q, c, b, t, n⟩ : St).n]) 48)).alloc (.cells #[.int .i64 r.x, .int .i64 r.y, .int .i64 r.w, .int .i64 r.h] 44)) w.heap.size (#[.int .u8 (⟨3, q, c, b, t, n⟩ : St).k, .int .i64 (⟨3, q, c, b, t, n⟩ : St).r.x, .int .i64 (⟨3, q, c, b, t, n⟩ : St).r.y, .int .i64 (⟨3, q, c, b, t, n⟩ : St).r.w, .int .i64 (⟨3, q, c, b, t, n⟩ : St).r.h, .int .u8 (⟨3, q, c, b, t, n⟩ : St).c.r, .int .u8 (⟨3, q, c, b, t, n⟩ : St).c.g, .int .u8 (⟨3, q, c, b, t, n⟩ : St).c.b, .int .u8 (⟨3, q, c, b, t, n⟩ : St).c.a, .int .u8 (⟨3, q, c, b, t, n⟩ : St).b.r, .int .u8 (⟨3, q, c, b, t, n⟩ : St).b.g, .int .u8 (⟨3, q, c, b, t, n⟩ : St).b.b, .int .u8 (⟨3, q, c, b, t, n⟩ : St).b.a, .string (⟨3, q, c, b, t, n⟩ : St).t, .int .i64 (⟨3, q, c, b, t, n⟩ : St).n]) 48 ∧ Bk ((w.alloc (.cells (#[.int .u8 (⟨3, q, c, b, t, n⟩ : St).k, .int .i64 (⟨3, q, c, b, t, n⟩ : St).r.x, .int .i64 (⟨3, q, c, b, t, n⟩ : St).r.y, .int .i64 (⟨3, q, c, b, t, n⟩ : St).r.w, .int .i64 (⟨3, q, c, b, t, n⟩ : St).r.h, .int .u8 (⟨3, q, c, b, t, n⟩ : St).c.r, .int .u8 (⟨3, q, c, b, t, n⟩ : St).c.g, .int .u8 (⟨3, q, c, b, t, n⟩ : St).c.b, .int .u8 (⟨3, q, c, b, t, n⟩ : St).c.a, .int .u8 (⟨3, q, c, b, t, n⟩ : St).b.r, .int .u8 (⟨3, q, c, b, t, n⟩ : St).b.g, .int .u8 (⟨3, q, c, b, t, n⟩ : St).b.b, .int .u8 (⟨3, q, c, b, t, n⟩ : St).b.a, .string (⟨3, q, c, b, t, n⟩ : St).t, .int .i64 (⟨3, q, c, b, t, n⟩ : St).n]) 48)).alloc (.cells #[.int .i64 r.x, .int .i64 r.y, .int .i64 r.w, .int .i64 r.h] 44)) (w.heap.size + 1) #[.int .i64 r.x, .int .i64 r.y, .int .i64 r.w, .int .i64 r.h] 44) := ⟨A, B⟩
  clear h A B
  by_cases hz : t.size = 0
  · rw [if_pos hz]
    have hz2 := ztx_nil hz
    subst hz2
    go_enter Tryz.func29, Tryz.ntmps29
    go_wp2_with fail
    refine (HE.out _).mono ?_
    rintro e w1 ⟨rfl, hb1⟩
    have H1 : Hid (Below w.heap.size w w1) := (HL.out _ _).trans (hb1.mono (HL.out _ _).size)
    have A1 := HAB.out.1.below hb1
    have a0 := A1.cell 0
    have a13 := A1.cell 13
    clear hb1 HAB A1
    simp only [List.getElem?_toArray, List.getElem?_cons_zero, List.getElem?_cons_succ] at a0 a13
    go_wp2
    go_ret
    exact ⟨_, rfl, OwR.nil _ _, H1.out⟩
  · rw [if_neg hz]
    obtain ⟨z1, z2⟩ := ztx_ne hz
    go_enter Tryz.func29, Tryz.ntmps29
    go_wp2_with fail
    refine (HE.out _).mono ?_
    rintro e w1 ⟨rfl, hb1⟩
    have H1 : Hid (Below w.heap.size w w1 ∧ Bk w1 w.heap.size (#[.int .u8 (⟨3, q, c, b, t, n⟩ : St).k, .int .i64 (⟨3, q, c, b, t, n⟩ : St).r.x, .int .i64 (⟨3, q, c, b, t, n⟩ : St).r.y, .int .i64 (⟨3, q, c, b, t, n⟩ : St).r.w, .int .i64 (⟨3, q, c, b, t, n⟩ : St).r.h, .int .u8 (⟨3, q, c, b, t, n⟩ : St).c.r, .int .u8 (⟨3, q, c, b, t, n⟩ : St).c.g, .int .u8 (⟨3, q, c, b, t, n⟩ : St).c.b, .int .u8 (⟨3, q, c, b, t, n⟩ : St).c.a, .int .u8 (⟨3, q, c, b, t, n⟩ : St).b.r, .int .u8 (⟨3, q, c, b, t, n⟩ : St).b.g, .int .u8 (⟨3, q, c, b, t, n⟩ : St).b.b, .int .u8 (⟨3, q, c, b, t, n⟩ : St).b.a, .string (⟨3, q, c, b, t, n⟩ : St).t, .int .i64 (⟨3, q, c, b, t, n⟩ : St).n]) 48 ∧ Bk w1 (w.heap.size + 1) #[.int .i64 r.x, .int .i64 r.y, .int .i64 r.w, .int .i64 r.h] 44) := ⟨(HL.out _ _).trans (hb1.mono (HL.out _ _).size), HAB.out.1.below hb1, HAB.out.2.below hb1⟩
    clear hb1 HAB
    have cc := H1.out.2.1.cell
    have a0 := cc 0
    have a1 := cc 1
    have a2 := cc 2
    have a3 := cc 3
    have a4 := cc 4
    have a5 := cc 5
    have a6 := cc 6
    have a7 := cc 7
    have a8 := cc 8
    have a9 := cc 9
    have a10 := cc 10
    have a11 := cc 11
    have a12 := cc 12
    have a13 := cc 13
    have a14 := cc 14
    clear cc
    simp only [List.getElem?_toArray, List.getElem?_cons_zero, List.getElem?_cons_succ] at a0 a1 a2 a3 a4 a5 a6 a7 a8 a9 a10 a11 a12 a13 a14
    go_wp2_with fail
    refine (HD.out _).mono ?_
    rintro e w2 ⟨rfl, hb2⟩
    have H2 : Hid (Below w.heap.size w w2 ∧ Bk w2 w.heap.size (#[.int .u8 (⟨3, q, c, b, t, n⟩ : St).k, .int .i64 (⟨3, q, c, b, t, n⟩ : St).r.x, .int .i64 (⟨3, q, c, b, t, n⟩ : St).r.y, .int .i64 (⟨3, q, c, b, t, n⟩ : St).r.w, .int .i64 (⟨3, q, c, b, t, n⟩ : St).r.h, .int .u8 (⟨3, q, c, b, t, n⟩ : St).c.r, .int .u8 (⟨3, q, c, b, t, n⟩ : St).c.g, .int .u8 (⟨3, q, c, b, t, n⟩ : St).c.b, .int .u8 (⟨3, q, c, b, t, n⟩ : St).c.a, .int .u8 (⟨3, q, c, b, t, n⟩ : St).b.r, .int .u8 (⟨3, q, c, b, t, n⟩ : St).b.g, .int .u8 (⟨3, q, c, b, t, n⟩ : St).b.b, .int .u8 (⟨3, q, c, b, t, n⟩ : St).b.a, .string (⟨3, q, c, b, t, n⟩ : St).t, .int .i64 (⟨3, q, c, b, t, n⟩ : St).n]) 48 ∧ Bk w2 (w.heap.size + 1) #[.int .i64 r.x, .int .i64 r.y, .int .i64 r.w, .int .i64 r.h] 44) := ⟨H1.out.1.trans (hb2.mono H1.out.1.size), H1.out.2.1.below hb2, H1.out.2.2.below hb2⟩
    clear hb2 H1 a0 a1 a2 a3 a4 a5 a6 a7 a8 a9 a10 a11 a12 a13 a14
    have a0 := H2.out.2.1.cell 0
    simp only [List.getElem?_toArray, List.getElem?_cons_zero] at a0
    obtain ⟨b0, b1, b2, b3⟩ := H2.out.2.2.at4
    have HF : Hid (OwR w.heap.size (w2.alloc (.cells #[.int .i64 r.x, .int .i64 r.y, .int .i64 r.w, .int .i64 r.h] 44)) (.slice (some ⟨w2.heap.size, 0, none⟩) 1 1) [r] ∧ Below w.heap.size w (w2.alloc (.cells #[.int .i64 r.x, .int .i64 r.y, .int .i64 r.w, .int .i64 r.h] 44))) := ⟨own_one (Bk.new _ _ _) H2.out.1.size, H2.out.1.alloc H2.out.1.size _⟩
    clear H2
    go_wp2
    go_ret
    exact ⟨_, rfl, HF.out⟩

set_option maxRecDepth 20000 in
set_option maxHeartbeats 4000000 in
theorem plc_one (q : Rc) (c b : Co) (t : ByteArray) (n : Int) (r : Rc) (w : World) (h : zEm r = false) :
    Calls Tryz.prog 29 #[(Value.agg #[.int .u8 (⟨1, q, c, b, t, n⟩ : St).k, .int .i64 (⟨1, q, c, b, t, n⟩ : St).r.x, .int .i64 (⟨1, q, c, b, t, n⟩ : St).r.y, .int .i64 (⟨1, q, c, b, t, n⟩ : St).r.w, .int .i64 (⟨1, q, c, b, t, n⟩ : St).r.h, .int .u8 (⟨1, q, c, b, t, n⟩ : St).c.r, .int .u8 (⟨1, q, c, b, t, n⟩ : St).c.g, .int .u8 (⟨1, q, c, b, t, n⟩ : St).c.b, .int .u8 (⟨1, q, c, b, t, n⟩ : St).c.a, .int .u8 (⟨1, q, c, b, t, n⟩ : St).b.r, .int .u8 (⟨1, q, c, b, t, n⟩ : St).b.g, .int .u8 (⟨1, q, c, b, t, n⟩ : St).b.b, .int .u8 (⟨1, q, c, b, t, n⟩ : St).b.a, .string (⟨1, q, c, b, t, n⟩ : St).t, .int .i64 (⟨1, q, c, b, t, n⟩ : St).n]), .agg #[.int .i64 r.x, .int .i64 r.y, .int .i64 r.w, .int .i64 r.h]] w fun e w' => AnsP w (if c.a = 0 then [] else [r]) e w' := by
  have HL : Hid (∀ c d, Below w.heap.size w ((w.alloc c).alloc d)) := fun c d => ((Below.refl _ w).alloc (Nat.le_refl _) _).alloc (by simp) _
  have HE : Hid (∀ W, Calls Tryz.prog 43 #[.agg #[.int .i64 r.x, .int .i64 r.y, .int .i64 r.w, .int .i64 r.h]] W fun e w' => e = .returned (.bool false) ∧ Below W.heap.size W w') := fun W => by rw [← h]; exact rempty_any _ _ _ _ W
  have A : Bk ((w.alloc (.cells (#[.int .u8 (⟨1, q, c, b, t, n⟩ : St).k, .int .i64 (⟨1, q, c, b, t, n⟩ : St).r.x, .int .i64 (⟨1, q, c, b, t, n⟩ : St).r.y, .int .i64 (⟨1, q, c, b, t, n⟩ : St).r.w, .int .i64 (⟨1, q, c, b, t, n⟩ : St).r.h, .int .u8 (⟨1, q, c, b, t, n⟩ : St).c.r, .int .u8 (⟨1, q, c, b, t, n⟩ : St).c.g, .int .u8 (⟨1, q, c, b, t, n⟩ : St).c.b, .int .u8 (⟨1, q, c, b, t, n⟩ : St).c.a, .int .u8 (⟨1, q, c, b, t, n⟩ : St).b.r, .int .u8 (⟨1, q, c, b, t, n⟩ : St).b.g, .int .u8 (⟨1, q, c, b, t, n⟩ : St).b.b, .int .u8 (⟨1, q, c, b, t, n⟩ : St).b.a, .string (⟨1, q, c, b, t, n⟩ : St).t, .int .i64 (⟨1, q, c, b, t, n⟩ : St).n]) 48)).alloc (.cells #[.int .i64 r.x, .int .i64 r.y, .int .i64 r.w, .int .i64 r.h] 44)) w.heap.size (#[.int .u8 (⟨1, q, c, b, t, n⟩ : St).k, .int .i64 (⟨1, q, c, b, t, n⟩ : St).r.x, .int .i64 (⟨1, q, c, b, t, n⟩ : St).r.y, .int .i64 (⟨1, q, c, b, t, n⟩ : St).r.w, .int .i64 (⟨1, q, c, b, t, n⟩ : St).r.h, .int .u8 (⟨1, q, c, b, t, n⟩ : St).c.r, .int .u8 (⟨1, q, c, b, t, n⟩ : St).c.g, .int .u8 (⟨1, q, c, b, t, n⟩ : St).c.b, .int .u8 (⟨1, q, c, b, t, n⟩ : St).c.a, .int .u8 (⟨1, q, c, b, t, n⟩ : St).b.r, .int .u8 (⟨1, q, c, b, t, n⟩ : St).b.g, .int .u8 (⟨1, q, c, b, t, n⟩ : St).b.b, .int .u8 (⟨1, q, c, b, t, n⟩ : St).b.a, .string (⟨1, q, c, b, t, n⟩ : St).t, .int .i64 (⟨1, q, c, b, t, n⟩ : St).n]) 48 := (Bk.new w _ _).below ((Below.refl _ _).alloc (Nat.le_refl _) _)
  have B : Bk ((w.alloc (.cells (#[.int .u8 (⟨1, q, c, b, t, n⟩ : St).k, .int .i64 (⟨1, q, c, b, t, n⟩ : St).r.x, .int .i64 (⟨1, q, c, b, t, n⟩ : St).r.y, .int .i64 (⟨1, q, c, b, t, n⟩ : St).r.w, .int .i64 (⟨1, q, c, b, t, n⟩ : St).r.h, .int .u8 (⟨1, q, c, b, t, n⟩ : St).c.r, .int .u8 (⟨1, q, c, b, t, n⟩ : St).c.g, .int .u8 (⟨1, q, c, b, t, n⟩ : St).c.b, .int .u8 (⟨1, q, c, b, t, n⟩ : St).c.a, .int .u8 (⟨1, q, c, b, t, n⟩ : St).b.r, .int .u8 (⟨1, q, c, b, t, n⟩ : St).b.g, .int .u8 (⟨1, q, c, b, t, n⟩ : St).b.b, .int .u8 (⟨1, q, c, b, t, n⟩ : St).b.a, .string (⟨1, q, c, b, t, n⟩ : St).t, .int .i64 (⟨1, q, c, b, t, n⟩ : St).n]) 48)).alloc (.cells #[.int .i64 r.x, .int .i64 r.y, .int .i64 r.w, .int .i64 r.h] 44)) (w.heap.size + 1) #[.int .i64 r.x, .int .i64 r.y, .int .i64 r.w, .int .i64 r.h] 44 := by have := Bk.new (w.alloc (.cells (#[.int .u8 (⟨1, q, c, b, t, n⟩ : St).k, .int .i64 (⟨1, q, c, b, t, n⟩ : St).r.x, .int .i64 (⟨1, q, c, b, t, n⟩ : St).r.y, .int .i64 (⟨1, q, c, b, t, n⟩ : St).r.w, .int .i64 (⟨1, q, c, b, t, n⟩ : St).r.h, .int .u8 (⟨1, q, c, b, t, n⟩ : St).c.r, .int .u8 (⟨1, q, c, b, t, n⟩ : St).c.g, .int .u8 (⟨1, q, c, b, t, n⟩ : St).c.b, .int .u8 (⟨1, q, c, b, t, n⟩ : St).c.a, .int .u8 (⟨1, q, c, b, t, n⟩ : St).b.r, .int .u8 (⟨1, q, c, b, t, n⟩ : St).b.g, .int .u8 (⟨1, q, c, b, t, n⟩ : St).b.b, .int .u8 (⟨1, q, c, b, t, n⟩ : St).b.a, .string (⟨1, q, c, b, t, n⟩ : St).t, .int .i64 (⟨1, q, c, b, t, n⟩ : St).n]) 48)) #[.int .i64 r.x, .int .i64 r.y, .int .i64 r.w, .int .i64 r.h] 44; simpa using this
  have HD : Hid (∀ W, Calls Tryz.prog 25 #[(Value.agg #[.int .u8 (⟨1, q, c, b, t, n⟩ : St).k, .int .i64 (⟨1, q, c, b, t, n⟩ : St).r.x, .int .i64 (⟨1, q, c, b, t, n⟩ : St).r.y, .int .i64 (⟨1, q, c, b, t, n⟩ : St).r.w, .int .i64 (⟨1, q, c, b, t, n⟩ : St).r.h, .int .u8 (⟨1, q, c, b, t, n⟩ : St).c.r, .int .u8 (⟨1, q, c, b, t, n⟩ : St).c.g, .int .u8 (⟨1, q, c, b, t, n⟩ : St).c.b, .int .u8 (⟨1, q, c, b, t, n⟩ : St).c.a, .int .u8 (⟨1, q, c, b, t, n⟩ : St).b.r, .int .u8 (⟨1, q, c, b, t, n⟩ : St).b.g, .int .u8 (⟨1, q, c, b, t, n⟩ : St).b.b, .int .u8 (⟨1, q, c, b, t, n⟩ : St).b.a, .string (⟨1, q, c, b, t, n⟩ : St).t, .int .i64 (⟨1, q, c, b, t, n⟩ : St).n])] W fun e w' => e = .returned (.bool true) ∧ Below W.heap.size W w') := fun W => zdraws_any (⟨1, q, c, b, t, n⟩ : St) W
  have HAB : Hid (Bk ((w.alloc (.cells (#[.int .u8 (⟨1, q, c, b, t, n⟩ : St).k, .int .i64 (⟨1, q, c, b, t, n⟩ : St).r.x, .int .i64 (⟨1, q, c, b, t, n⟩ : St).r.y, .int .i64 (⟨1, q, c, b, t, n⟩ : St).r.w, .int .i64 (⟨1, q, c, b, t, n⟩ : St).r.h, .int .u8 (⟨1, q, c, b, t, n⟩ : St).c.r, .int .u8 (⟨1, q, c, b, t, n⟩ : St).c.g, .int .u8 (⟨1, q, c, b, t, n⟩ : St).c.b, .int .u8 (⟨1, q, c, b, t, n⟩ : St).c.a, .int .u8 (⟨1, q, c, b, t, n⟩ : St).b.r, .int .u8 (⟨1, q, c, b, t, n⟩ : St).b.g, .int .u8 (⟨1, q, c, b, t, n⟩ : St).b.b, .int .u8 (⟨1, q, c, b, t, n⟩ : St).b.a, .string (⟨1, q, c, b, t, n⟩ : St).t, .int .i64 (⟨1, q, c, b, t, n⟩ : St).n]) 48)).alloc (.cells #[.int .i64 r.x, .int .i64 r.y, .int .i64 r.w, .int .i64 r.h] 44)) w.heap.size (#[.int .u8 (⟨1, q, c, b, t, n⟩ : St).k, .int .i64 (⟨1, q, c, b, t, n⟩ : St).r.x, .int .i64 (⟨1, q, c, b, t, n⟩ : St).r.y, .int .i64 (⟨1, q, c, b, t, n⟩ : St).r.w, .int .i64 (⟨1, q, c, b, t, n⟩ : St).r.h, .int .u8 (⟨1, q, c, b, t, n⟩ : St).c.r, .int .u8 (⟨1, q, c, b, t, n⟩ : St).c.g, .int .u8 (⟨1, q, c, b, t, n⟩ : St).c.b, .int .u8 (⟨1, q, c, b, t, n⟩ : St).c.a, .int .u8 (⟨1, q, c, b, t, n⟩ : St).b.r, .int .u8 (⟨1, q, c, b, t, n⟩ : St).b.g, .int .u8 (⟨1, q, c, b, t, n⟩ : St).b.b, .int .u8 (⟨1, q, c, b, t, n⟩ : St).b.a, .string (⟨1, q, c, b, t, n⟩ : St).t, .int .i64 (⟨1, q, c, b, t, n⟩ : St).n]) 48 ∧ Bk ((w.alloc (.cells (#[.int .u8 (⟨1, q, c, b, t, n⟩ : St).k, .int .i64 (⟨1, q, c, b, t, n⟩ : St).r.x, .int .i64 (⟨1, q, c, b, t, n⟩ : St).r.y, .int .i64 (⟨1, q, c, b, t, n⟩ : St).r.w, .int .i64 (⟨1, q, c, b, t, n⟩ : St).r.h, .int .u8 (⟨1, q, c, b, t, n⟩ : St).c.r, .int .u8 (⟨1, q, c, b, t, n⟩ : St).c.g, .int .u8 (⟨1, q, c, b, t, n⟩ : St).c.b, .int .u8 (⟨1, q, c, b, t, n⟩ : St).c.a, .int .u8 (⟨1, q, c, b, t, n⟩ : St).b.r, .int .u8 (⟨1, q, c, b, t, n⟩ : St).b.g, .int .u8 (⟨1, q, c, b, t, n⟩ : St).b.b, .int .u8 (⟨1, q, c, b, t, n⟩ : St).b.a, .string (⟨1, q, c, b, t, n⟩ : St).t, .int .i64 (⟨1, q, c, b, t, n⟩ : St).n]) 48)).alloc (.cells #[.int .i64 r.x, .int .i64 r.y, .int .i64 r.w, .int .i64 r.h] 44)) (w.heap.size + 1) #[.int .i64 r.x, .int .i64 r.y, .int .i64 r.w, .int .i64 r.h] 44) := ⟨A, B⟩
  clear h A B
  by_cases hz : c.a = 0
  · rw [if_pos hz]
    obtain ⟨cr, cg, cb, ca⟩ := c
    have hz : ca = 0 := hz
    subst hz
    go_enter Tryz.func29, Tryz.ntmps29
    go_wp2_with fail
    refine (HE.out _).mono ?_
    rintro e w1 ⟨rfl, hb1⟩
    have H1 : Hid (Below w.heap.size w w1) := (HL.out _ _).trans (hb1.mono (HL.out _ _).size)
    have A1 := HAB.out.1.below hb1
    have a0 := A1.cell 0
    have a13 := A1.cell 8
    clear hb1 HAB A1
    simp only [List.getElem?_toArray, List.getElem?_cons_zero, List.getElem?_cons_succ] at a0 a13
    go_wp2
    go_ret
    exact ⟨_, rfl, OwR.nil _ _, H1.out⟩
  · rw [if_neg hz]
    have z1 : (c.a == 0) = false := beq_eq_false_iff_ne.2 hz
    go_enter Tryz.func29, Tryz.ntmps29
    go_wp2_with fail
    refine (HE.out _).mono ?_
    rintro e w1 ⟨rfl, hb1⟩
    have H1 : Hid (Below w.heap.size w w1 ∧ Bk w1 w.heap.size (#[.int .u8 (⟨1, q, c, b, t, n⟩ : St).k, .int .i64 (⟨1, q, c, b, t, n⟩ : St).r.x, .int .i64 (⟨1, q, c, b, t, n⟩ : St).r.y, .int .i64 (⟨1, q, c, b, t, n⟩ : St).r.w, .int .i64 (⟨1, q, c, b, t, n⟩ : St).r.h, .int .u8 (⟨1, q, c, b, t, n⟩ : St).c.r, .int .u8 (⟨1, q, c, b, t, n⟩ : St).c.g, .int .u8 (⟨1, q, c, b, t, n⟩ : St).c.b, .int .u8 (⟨1, q, c, b, t, n⟩ : St).c.a, .int .u8 (⟨1, q, c, b, t, n⟩ : St).b.r, .int .u8 (⟨1, q, c, b, t, n⟩ : St).b.g, .int .u8 (⟨1, q, c, b, t, n⟩ : St).b.b, .int .u8 (⟨1, q, c, b, t, n⟩ : St).b.a, .string (⟨1, q, c, b, t, n⟩ : St).t, .int .i64 (⟨1, q, c, b, t, n⟩ : St).n]) 48 ∧ Bk w1 (w.heap.size + 1) #[.int .i64 r.x, .int .i64 r.y, .int .i64 r.w, .int .i64 r.h] 44) := ⟨(HL.out _ _).trans (hb1.mono (HL.out _ _).size), HAB.out.1.below hb1, HAB.out.2.below hb1⟩
    clear hb1 HAB
    have cc := H1.out.2.1.cell
    have a0 := cc 0
    have a1 := cc 1
    have a2 := cc 2
    have a3 := cc 3
    have a4 := cc 4
    have a5 := cc 5
    have a6 := cc 6
    have a7 := cc 7
    have a8 := cc 8
    have a9 := cc 9
    have a10 := cc 10
    have a11 := cc 11
    have a12 := cc 12
    have a13 := cc 13
    have a14 := cc 14
    clear cc
    simp only [List.getElem?_toArray, List.getElem?_cons_zero, List.getElem?_cons_succ] at a0 a1 a2 a3 a4 a5 a6 a7 a8 a9 a10 a11 a12 a13 a14
    go_wp2_with fail
    refine (HD.out _).mono ?_
    rintro e w2 ⟨rfl, hb2⟩
    have H2 : Hid (Below w.heap.size w w2 ∧ Bk w2 w.heap.size (#[.int .u8 (⟨1, q, c, b, t, n⟩ : St).k, .int .i64 (⟨1, q, c, b, t, n⟩ : St).r.x, .int .i64 (⟨1, q, c, b, t, n⟩ : St).r.y, .int .i64 (⟨1, q, c, b, t, n⟩ : St).r.w, .int .i64 (⟨1, q, c, b, t, n⟩ : St).r.h, .int .u8 (⟨1, q, c, b, t, n⟩ : St).c.r, .int .u8 (⟨1, q, c, b, t, n⟩ : St).c.g, .int .u8 (⟨1, q, c, b, t, n⟩ : St).c.b, .int .u8 (⟨1, q, c, b, t, n⟩ : St).c.a, .int .u8 (⟨1, q, c, b, t, n⟩ : St).b.r, .int .u8 (⟨1, q, c, b, t, n⟩ : St).b.g, .int .u8 (⟨1, q, c, b, t, n⟩ : St).b.b, .int .u8 (⟨1, q, c, b, t, n⟩ : St).b.a, .string (⟨1, q, c, b, t, n⟩ : St).t, .int .i64 (⟨1, q, c, b, t, n⟩ : St).n]) 48 ∧ Bk w2 (w.heap.size + 1) #[.int .i64 r.x, .int .i64 r.y, .int .i64 r.w, .int .i64 r.h] 44) := ⟨H1.out.1.trans (hb2.mono H1.out.1.size), H1.out.2.1.below hb2, H1.out.2.2.below hb2⟩
    clear hb2 H1 a0 a1 a2 a3 a4 a5 a6 a7 a8 a9 a10 a11 a12 a13 a14
    have a0 := H2.out.2.1.cell 0
    simp only [List.getElem?_toArray, List.getElem?_cons_zero] at a0
    obtain ⟨b0, b1, b2, b3⟩ := H2.out.2.2.at4
    have HF : Hid (OwR w.heap.size (w2.alloc (.cells #[.int .i64 r.x, .int .i64 r.y, .int .i64 r.w, .int .i64 r.h] 44)) (.slice (some ⟨w2.heap.size, 0, none⟩) 1 1) [r] ∧ Below w.heap.size w (w2.alloc (.cells #[.int .i64 r.x, .int .i64 r.y, .int .i64 r.w, .int .i64 r.h] 44))) := ⟨own_one (Bk.new _ _ _) H2.out.1.size, H2.out.1.alloc H2.out.1.size _⟩
    clear H2
    go_wp2
    go_ret
    exact ⟨_, rfl, HF.out⟩

set_option maxRecDepth 20000 in
set_option maxHeartbeats 4000000 in
theorem plc_two0 (q : Rc) (c b : Co) (t : ByteArray) (n : Int) (r : Rc) (w : World) (h : zEm r = false) (hz : c.a = 0) :
    Calls Tryz.prog 29 #[(Value.agg #[.int .u8 (⟨2, q, c, b, t, n⟩ : St).k, .int .i64 (⟨2, q, c, b, t, n⟩ : St).r.x, .int .i64 (⟨2, q, c, b, t, n⟩ : St).r.y, .int .i64 (⟨2, q, c, b, t, n⟩ : St).r.w, .int .i64 (⟨2, q, c, b, t, n⟩ : St).r.h, .int .u8 (⟨2, q, c, b, t, n⟩ : St).c.r, .int .u8 (⟨2, q, c, b, t, n⟩ : St).c.g, .int .u8 (⟨2, q, c, b, t, n⟩ : St).c.b, .int .u8 (⟨2, q, c, b, t, n⟩ : St).c.a, .int .u8 (⟨2, q, c, b, t, n⟩ : St).b.r, .int .u8 (⟨2, q, c, b, t, n⟩ : St).b.g, .int .u8 (⟨2, q, c, b, t, n⟩ : St).b.b, .int .u8 (⟨2, q, c, b, t, n⟩ : St).b.a, .string (⟨2, q, c, b, t, n⟩ : St).t, .int .i64 (⟨2, q, c, b, t, n⟩ : St).n]), .agg #[.int .i64 r.x, .int .i64 r.y, .int .i64 r.w, .int .i64 r.h]] w fun e w' => AnsP w [] e w' := by
  have HL : Hid (∀ c d, Below w.heap.size w ((w.alloc c).alloc d)) := fun c d => ((Below.refl _ w).alloc (Nat.le_refl _) _).alloc (by simp) _
  have HE : Hid (∀ W, Calls Tryz.prog 43 #[.agg #[.int .i64 r.x, .int .i64 r.y, .int .i64 r.w, .int .i64 r.h]] W fun e w' => e = .returned (.bool false) ∧ Below W.heap.size W w') := fun W => by rw [← h]; exact rempty_any _ _ _ _ W
  have A : Bk ((w.alloc (.cells (#[.int .u8 (⟨2, q, c, b, t, n⟩ : St).k, .int .i64 (⟨2, q, c, b, t, n⟩ : St).r.x, .int .i64 (⟨2, q, c, b, t, n⟩ : St).r.y, .int .i64 (⟨2, q, c, b, t, n⟩ : St).r.w, .int .i64 (⟨2, q, c, b, t, n⟩ : St).r.h, .int .u8 (⟨2, q, c, b, t, n⟩ : St).c.r, .int .u8 (⟨2, q, c, b, t, n⟩ : St).c.g, .int .u8 (⟨2, q, c, b, t, n⟩ : St).c.b, .int .u8 (⟨2, q, c, b, t, n⟩ : St).c.a, .int .u8 (⟨2, q, c, b, t, n⟩ : St).b.r, .int .u8 (⟨2, q, c, b, t, n⟩ : St).b.g, .int .u8 (⟨2, q, c, b, t, n⟩ : St).b.b, .int .u8 (⟨2, q, c, b, t, n⟩ : St).b.a, .string (⟨2, q, c, b, t, n⟩ : St).t, .int .i64 (⟨2, q, c, b, t, n⟩ : St).n]) 48)).alloc (.cells #[.int .i64 r.x, .int .i64 r.y, .int .i64 r.w, .int .i64 r.h] 44)) w.heap.size (#[.int .u8 (⟨2, q, c, b, t, n⟩ : St).k, .int .i64 (⟨2, q, c, b, t, n⟩ : St).r.x, .int .i64 (⟨2, q, c, b, t, n⟩ : St).r.y, .int .i64 (⟨2, q, c, b, t, n⟩ : St).r.w, .int .i64 (⟨2, q, c, b, t, n⟩ : St).r.h, .int .u8 (⟨2, q, c, b, t, n⟩ : St).c.r, .int .u8 (⟨2, q, c, b, t, n⟩ : St).c.g, .int .u8 (⟨2, q, c, b, t, n⟩ : St).c.b, .int .u8 (⟨2, q, c, b, t, n⟩ : St).c.a, .int .u8 (⟨2, q, c, b, t, n⟩ : St).b.r, .int .u8 (⟨2, q, c, b, t, n⟩ : St).b.g, .int .u8 (⟨2, q, c, b, t, n⟩ : St).b.b, .int .u8 (⟨2, q, c, b, t, n⟩ : St).b.a, .string (⟨2, q, c, b, t, n⟩ : St).t, .int .i64 (⟨2, q, c, b, t, n⟩ : St).n]) 48 := (Bk.new w _ _).below ((Below.refl _ _).alloc (Nat.le_refl _) _)
  have B : Bk ((w.alloc (.cells (#[.int .u8 (⟨2, q, c, b, t, n⟩ : St).k, .int .i64 (⟨2, q, c, b, t, n⟩ : St).r.x, .int .i64 (⟨2, q, c, b, t, n⟩ : St).r.y, .int .i64 (⟨2, q, c, b, t, n⟩ : St).r.w, .int .i64 (⟨2, q, c, b, t, n⟩ : St).r.h, .int .u8 (⟨2, q, c, b, t, n⟩ : St).c.r, .int .u8 (⟨2, q, c, b, t, n⟩ : St).c.g, .int .u8 (⟨2, q, c, b, t, n⟩ : St).c.b, .int .u8 (⟨2, q, c, b, t, n⟩ : St).c.a, .int .u8 (⟨2, q, c, b, t, n⟩ : St).b.r, .int .u8 (⟨2, q, c, b, t, n⟩ : St).b.g, .int .u8 (⟨2, q, c, b, t, n⟩ : St).b.b, .int .u8 (⟨2, q, c, b, t, n⟩ : St).b.a, .string (⟨2, q, c, b, t, n⟩ : St).t, .int .i64 (⟨2, q, c, b, t, n⟩ : St).n]) 48)).alloc (.cells #[.int .i64 r.x, .int .i64 r.y, .int .i64 r.w, .int .i64 r.h] 44)) (w.heap.size + 1) #[.int .i64 r.x, .int .i64 r.y, .int .i64 r.w, .int .i64 r.h] 44 := by have := Bk.new (w.alloc (.cells (#[.int .u8 (⟨2, q, c, b, t, n⟩ : St).k, .int .i64 (⟨2, q, c, b, t, n⟩ : St).r.x, .int .i64 (⟨2, q, c, b, t, n⟩ : St).r.y, .int .i64 (⟨2, q, c, b, t, n⟩ : St).r.w, .int .i64 (⟨2, q, c, b, t, n⟩ : St).r.h, .int .u8 (⟨2, q, c, b, t, n⟩ : St).c.r, .int .u8 (⟨2, q, c, b, t, n⟩ : St).c.g, .int .u8 (⟨2, q, c, b, t, n⟩ : St).c.b, .int .u8 (⟨2, q, c, b, t, n⟩ : St).c.a, .int .u8 (⟨2, q, c, b, t, n⟩ : St).b.r, .int .u8 (⟨2, q, c, b, t, n⟩ : St).b.g, .int .u8 (⟨2, q, c, b, t, n⟩ : St).b.b, .int .u8 (⟨2, q, c, b, t, n⟩ : St).b.a, .string (⟨2, q, c, b, t, n⟩ : St).t, .int .i64 (⟨2, q, c, b, t, n⟩ : St).n]) 48)) #[.int .i64 r.x, .int .i64 r.y, .int .i64 r.w, .int .i64 r.h] 44; simpa using this
  have HAB : Hid (Bk ((w.alloc (.cells (#[.int .u8 (⟨2, q, c, b, t, n⟩ : St).k, .int .i64 (⟨2, q, c, b, t, n⟩ : St).r.x, .int .i64 (⟨2, q, c, b, t, n⟩ : St).r.y, .int .i64 (⟨2, q, c, b, t, n⟩ : St).r.w, .int .i64 (⟨2, q, c, b, t, n⟩ : St).r.h, .int .u8 (⟨2, q, c, b, t, n⟩ : St).c.r, .int .u8 (⟨2, q, c, b, t, n⟩ : St).c.g, .int .u8 (⟨2, q, c, b, t, n⟩ : St).c.b, .int .u8 (⟨2, q, c, b, t, n⟩ : St).c.a, .int .u8 (⟨2, q, c, b, t, n⟩ : St).b.r, .int .u8 (⟨2, q, c, b, t, n⟩ : St).b.g, .int .u8 (⟨2, q, c, b, t, n⟩ : St).b.b, .int .u8 (⟨2, q, c, b, t, n⟩ : St).b.a, .string (⟨2, q, c, b, t, n⟩ : St).t, .int .i64 (⟨2, q, c, b, t, n⟩ : St).n]) 48)).alloc (.cells #[.int .i64 r.x, .int .i64 r.y, .int .i64 r.w, .int .i64 r.h] 44)) w.heap.size (#[.int .u8 (⟨2, q, c, b, t, n⟩ : St).k, .int .i64 (⟨2, q, c, b, t, n⟩ : St).r.x, .int .i64 (⟨2, q, c, b, t, n⟩ : St).r.y, .int .i64 (⟨2, q, c, b, t, n⟩ : St).r.w, .int .i64 (⟨2, q, c, b, t, n⟩ : St).r.h, .int .u8 (⟨2, q, c, b, t, n⟩ : St).c.r, .int .u8 (⟨2, q, c, b, t, n⟩ : St).c.g, .int .u8 (⟨2, q, c, b, t, n⟩ : St).c.b, .int .u8 (⟨2, q, c, b, t, n⟩ : St).c.a, .int .u8 (⟨2, q, c, b, t, n⟩ : St).b.r, .int .u8 (⟨2, q, c, b, t, n⟩ : St).b.g, .int .u8 (⟨2, q, c, b, t, n⟩ : St).b.b, .int .u8 (⟨2, q, c, b, t, n⟩ : St).b.a, .string (⟨2, q, c, b, t, n⟩ : St).t, .int .i64 (⟨2, q, c, b, t, n⟩ : St).n]) 48 ∧ Bk ((w.alloc (.cells (#[.int .u8 (⟨2, q, c, b, t, n⟩ : St).k, .int .i64 (⟨2, q, c, b, t, n⟩ : St).r.x, .int .i64 (⟨2, q, c, b, t, n⟩ : St).r.y, .int .i64 (⟨2, q, c, b, t, n⟩ : St).r.w, .int .i64 (⟨2, q, c, b, t, n⟩ : St).r.h, .int .u8 (⟨2, q, c, b, t, n⟩ : St).c.r, .int .u8 (⟨2, q, c, b, t, n⟩ : St).c.g, .int .u8 (⟨2, q, c, b, t, n⟩ : St).c.b, .int .u8 (⟨2, q, c, b, t, n⟩ : St).c.a, .int .u8 (⟨2, q, c, b, t, n⟩ : St).b.r, .int .u8 (⟨2, q, c, b, t, n⟩ : St).b.g, .int .u8 (⟨2, q, c, b, t, n⟩ : St).b.b, .int .u8 (⟨2, q, c, b, t, n⟩ : St).b.a, .string (⟨2, q, c, b, t, n⟩ : St).t, .int .i64 (⟨2, q, c, b, t, n⟩ : St).n]) 48)).alloc (.cells #[.int .i64 r.x, .int .i64 r.y, .int .i64 r.w, .int .i64 r.h] 44)) (w.heap.size + 1) #[.int .i64 r.x, .int .i64 r.y, .int .i64 r.w, .int .i64 r.h] 44) := ⟨A, B⟩
  clear h A B
  obtain ⟨cr, cg, cb, ca⟩ := c
  have hz : ca = 0 := hz
  subst hz
  go_enter Tryz.func29, Tryz.ntmps29
  go_wp2_with fail
  refine (HE.out _).mono ?_
  rintro e w1 ⟨rfl, hb1⟩
  have H1 : Hid (Below w.heap.size w w1) := (HL.out _ _).trans (hb1.mono (HL.out _ _).size)
  have A1 := HAB.out.1.below hb1
  have a0 := A1.cell 0
  have a13 := A1.cell 8
  clear hb1 HAB A1
  simp only [List.getElem?_toArray, List.getElem?_cons_zero, List.getElem?_cons_succ] at a0 a13
  go_wp2
  go_ret
  exact ⟨_, rfl, OwR.nil _ _, H1.out⟩

set_option maxRecDepth 20000 in
set_option maxHeartbeats 4000000 in
theorem plc_four (q : Rc) (c b : Co) (t : ByteArray) (n : Int) (r : Rc) (w : World) (h : zEm r = false) :
    Calls Tryz.prog 29 #[(Value.agg #[.int .u8 (⟨4, q, c, b, t, n⟩ : St).k, .int .i64 (⟨4, q, c, b, t, n⟩ : St).r.x, .int .i64 (⟨4, q, c, b, t, n⟩ : St).r.y, .int .i64 (⟨4, q, c, b, t, n⟩ : St).r.w, .int .i64 (⟨4, q, c, b, t, n⟩ : St).r.h, .int .u8 (⟨4, q, c, b, t, n⟩ : St).c.r, .int .u8 (⟨4, q, c, b, t, n⟩ : St).c.g, .int .u8 (⟨4, q, c, b, t, n⟩ : St).c.b, .int .u8 (⟨4, q, c, b, t, n⟩ : St).c.a, .int .u8 (⟨4, q, c, b, t, n⟩ : St).b.r, .int .u8 (⟨4, q, c, b, t, n⟩ : St).b.g, .int .u8 (⟨4, q, c, b, t, n⟩ : St).b.b, .int .u8 (⟨4, q, c, b, t, n⟩ : St).b.a, .string (⟨4, q, c, b, t, n⟩ : St).t, .int .i64 (⟨4, q, c, b, t, n⟩ : St).n]), .agg #[.int .i64 r.x, .int .i64 r.y, .int .i64 r.w, .int .i64 r.h]] w fun e w' => AnsP w (if c.a = 0 then [] else []) e w' := by
  have HL : Hid (∀ c d, Below w.heap.size w ((w.alloc c).alloc d)) := fun c d => ((Below.refl _ w).alloc (Nat.le_refl _) _).alloc (by simp) _
  have HE : Hid (∀ W, Calls Tryz.prog 43 #[.agg #[.int .i64 r.x, .int .i64 r.y, .int .i64 r.w, .int .i64 r.h]] W fun e w' => e = .returned (.bool false) ∧ Below W.heap.size W w') := fun W => by rw [← h]; exact rempty_any _ _ _ _ W
  have A : Bk ((w.alloc (.cells (#[.int .u8 (⟨4, q, c, b, t, n⟩ : St).k, .int .i64 (⟨4, q, c, b, t, n⟩ : St).r.x, .int .i64 (⟨4, q, c, b, t, n⟩ : St).r.y, .int .i64 (⟨4, q, c, b, t, n⟩ : St).r.w, .int .i64 (⟨4, q, c, b, t, n⟩ : St).r.h, .int .u8 (⟨4, q, c, b, t, n⟩ : St).c.r, .int .u8 (⟨4, q, c, b, t, n⟩ : St).c.g, .int .u8 (⟨4, q, c, b, t, n⟩ : St).c.b, .int .u8 (⟨4, q, c, b, t, n⟩ : St).c.a, .int .u8 (⟨4, q, c, b, t, n⟩ : St).b.r, .int .u8 (⟨4, q, c, b, t, n⟩ : St).b.g, .int .u8 (⟨4, q, c, b, t, n⟩ : St).b.b, .int .u8 (⟨4, q, c, b, t, n⟩ : St).b.a, .string (⟨4, q, c, b, t, n⟩ : St).t, .int .i64 (⟨4, q, c, b, t, n⟩ : St).n]) 48)).alloc (.cells #[.int .i64 r.x, .int .i64 r.y, .int .i64 r.w, .int .i64 r.h] 44)) w.heap.size (#[.int .u8 (⟨4, q, c, b, t, n⟩ : St).k, .int .i64 (⟨4, q, c, b, t, n⟩ : St).r.x, .int .i64 (⟨4, q, c, b, t, n⟩ : St).r.y, .int .i64 (⟨4, q, c, b, t, n⟩ : St).r.w, .int .i64 (⟨4, q, c, b, t, n⟩ : St).r.h, .int .u8 (⟨4, q, c, b, t, n⟩ : St).c.r, .int .u8 (⟨4, q, c, b, t, n⟩ : St).c.g, .int .u8 (⟨4, q, c, b, t, n⟩ : St).c.b, .int .u8 (⟨4, q, c, b, t, n⟩ : St).c.a, .int .u8 (⟨4, q, c, b, t, n⟩ : St).b.r, .int .u8 (⟨4, q, c, b, t, n⟩ : St).b.g, .int .u8 (⟨4, q, c, b, t, n⟩ : St).b.b, .int .u8 (⟨4, q, c, b, t, n⟩ : St).b.a, .string (⟨4, q, c, b, t, n⟩ : St).t, .int .i64 (⟨4, q, c, b, t, n⟩ : St).n]) 48 := (Bk.new w _ _).below ((Below.refl _ _).alloc (Nat.le_refl _) _)
  have B : Bk ((w.alloc (.cells (#[.int .u8 (⟨4, q, c, b, t, n⟩ : St).k, .int .i64 (⟨4, q, c, b, t, n⟩ : St).r.x, .int .i64 (⟨4, q, c, b, t, n⟩ : St).r.y, .int .i64 (⟨4, q, c, b, t, n⟩ : St).r.w, .int .i64 (⟨4, q, c, b, t, n⟩ : St).r.h, .int .u8 (⟨4, q, c, b, t, n⟩ : St).c.r, .int .u8 (⟨4, q, c, b, t, n⟩ : St).c.g, .int .u8 (⟨4, q, c, b, t, n⟩ : St).c.b, .int .u8 (⟨4, q, c, b, t, n⟩ : St).c.a, .int .u8 (⟨4, q, c, b, t, n⟩ : St).b.r, .int .u8 (⟨4, q, c, b, t, n⟩ : St).b.g, .int .u8 (⟨4, q, c, b, t, n⟩ : St).b.b, .int .u8 (⟨4, q, c, b, t, n⟩ : St).b.a, .string (⟨4, q, c, b, t, n⟩ : St).t, .int .i64 (⟨4, q, c, b, t, n⟩ : St).n]) 48)).alloc (.cells #[.int .i64 r.x, .int .i64 r.y, .int .i64 r.w, .int .i64 r.h] 44)) (w.heap.size + 1) #[.int .i64 r.x, .int .i64 r.y, .int .i64 r.w, .int .i64 r.h] 44 := by have := Bk.new (w.alloc (.cells (#[.int .u8 (⟨4, q, c, b, t, n⟩ : St).k, .int .i64 (⟨4, q, c, b, t, n⟩ : St).r.x, .int .i64 (⟨4, q, c, b, t, n⟩ : St).r.y, .int .i64 (⟨4, q, c, b, t, n⟩ : St).r.w, .int .i64 (⟨4, q, c, b, t, n⟩ : St).r.h, .int .u8 (⟨4, q, c, b, t, n⟩ : St).c.r, .int .u8 (⟨4, q, c, b, t, n⟩ : St).c.g, .int .u8 (⟨4, q, c, b, t, n⟩ : St).c.b, .int .u8 (⟨4, q, c, b, t, n⟩ : St).c.a, .int .u8 (⟨4, q, c, b, t, n⟩ : St).b.r, .int .u8 (⟨4, q, c, b, t, n⟩ : St).b.g, .int .u8 (⟨4, q, c, b, t, n⟩ : St).b.b, .int .u8 (⟨4, q, c, b, t, n⟩ : St).b.a, .string (⟨4, q, c, b, t, n⟩ : St).t, .int .i64 (⟨4, q, c, b, t, n⟩ : St).n]) 48)) #[.int .i64 r.x, .int .i64 r.y, .int .i64 r.w, .int .i64 r.h] 44; simpa using this
  have HD : Hid (∀ W, Calls Tryz.prog 25 #[(Value.agg #[.int .u8 (⟨4, q, c, b, t, n⟩ : St).k, .int .i64 (⟨4, q, c, b, t, n⟩ : St).r.x, .int .i64 (⟨4, q, c, b, t, n⟩ : St).r.y, .int .i64 (⟨4, q, c, b, t, n⟩ : St).r.w, .int .i64 (⟨4, q, c, b, t, n⟩ : St).r.h, .int .u8 (⟨4, q, c, b, t, n⟩ : St).c.r, .int .u8 (⟨4, q, c, b, t, n⟩ : St).c.g, .int .u8 (⟨4, q, c, b, t, n⟩ : St).c.b, .int .u8 (⟨4, q, c, b, t, n⟩ : St).c.a, .int .u8 (⟨4, q, c, b, t, n⟩ : St).b.r, .int .u8 (⟨4, q, c, b, t, n⟩ : St).b.g, .int .u8 (⟨4, q, c, b, t, n⟩ : St).b.b, .int .u8 (⟨4, q, c, b, t, n⟩ : St).b.a, .string (⟨4, q, c, b, t, n⟩ : St).t, .int .i64 (⟨4, q, c, b, t, n⟩ : St).n])] W fun e w' => e = .returned (.bool false) ∧ Below W.heap.size W w') := fun W => zdraws_any (⟨4, q, c, b, t, n⟩ : St) W
  have HAB : Hid (Bk ((w.alloc (.cells (#[.int .u8 (⟨4, q, c, b, t, n⟩ : St).k, .int .i64 (⟨4, q, c, b, t, n⟩ : St).r.x, .int .i64 (⟨4, q, c, b, t, n⟩ : St).r.y, .int .i64 (⟨4, q, c, b, t, n⟩ : St).r.w, .int .i64 (⟨4, q, c, b, t, n⟩ : St).r.h, .int .u8 (⟨4, q, c, b, t, n⟩ : St).c.r, .int .u8 (⟨4, q, c, b, t, n⟩ : St).c.g, .int .u8 (⟨4, q, c, b, t, n⟩ : St).c.b, .int .u8 (⟨4, q, c, b, t, n⟩ : St).c.a, .int .u8 (⟨4, q, c, b, t, n⟩ : St).b.r, .int .u8 (⟨4, q, c, b, t, n⟩ : St).b.g, .int .u8 (⟨4, q, c, b, t, n⟩ : St).b.b, .int .u8 (⟨4, q, c, b, t, n⟩ : St).b.a, .string (⟨4, q, c, b, t, n⟩ : St).t, .int .i64 (⟨4, q, c, b, t, n⟩ : St).n]) 48)).alloc (.cells #[.int .i64 r.x, .int .i64 r.y, .int .i64 r.w, .int .i64 r.h] 44)) w.heap.size (#[.int .u8 (⟨4, q, c, b, t, n⟩ : St).k, .int .i64 (⟨4, q, c, b, t, n⟩ : St).r.x, .int .i64 (⟨4, q, c, b, t, n⟩ : St).r.y, .int .i64 (⟨4, q, c, b, t, n⟩ : St).r.w, .int .i64 (⟨4, q, c, b, t, n⟩ : St).r.h, .int .u8 (⟨4, q, c, b, t, n⟩ : St).c.r, .int .u8 (⟨4, q, c, b, t, n⟩ : St).c.g, .int .u8 (⟨4, q, c, b, t, n⟩ : St).c.b, .int .u8 (⟨4, q, c, b, t, n⟩ : St).c.a, .int .u8 (⟨4, q, c, b, t, n⟩ : St).b.r, .int .u8 (⟨4, q, c, b, t, n⟩ : St).b.g, .int .u8 (⟨4, q, c, b, t, n⟩ : St).b.b, .int .u8 (⟨4, q, c, b, t, n⟩ : St).b.a, .string (⟨4, q, c, b, t, n⟩ : St).t, .int .i64 (⟨4, q, c, b, t, n⟩ : St).n]) 48 ∧ Bk ((w.alloc (.cells (#[.int .u8 (⟨4, q, c, b, t, n⟩ : St).k, .int .i64 (⟨4, q, c, b, t, n⟩ : St).r.x, .int .i64 (⟨4, q, c, b, t, n⟩ : St).r.y, .int .i64 (⟨4, q, c, b, t, n⟩ : St).r.w, .int .i64 (⟨4, q, c, b, t, n⟩ : St).r.h, .int .u8 (⟨4, q, c, b, t, n⟩ : St).c.r, .int .u8 (⟨4, q, c, b, t, n⟩ : St).c.g, .int .u8 (⟨4, q, c, b, t, n⟩ : St).c.b, .int .u8 (⟨4, q, c, b, t, n⟩ : St).c.a, .int .u8 (⟨4, q, c, b, t, n⟩ : St).b.r, .int .u8 (⟨4, q, c, b, t, n⟩ : St).b.g, .int .u8 (⟨4, q, c, b, t, n⟩ : St).b.b, .int .u8 (⟨4, q, c, b, t, n⟩ : St).b.a, .string (⟨4, q, c, b, t, n⟩ : St).t, .int .i64 (⟨4, q, c, b, t, n⟩ : St).n]) 48)).alloc (.cells #[.int .i64 r.x, .int .i64 r.y, .int .i64 r.w, .int .i64 r.h] 44)) (w.heap.size + 1) #[.int .i64 r.x, .int .i64 r.y, .int .i64 r.w, .int .i64 r.h] 44) := ⟨A, B⟩
  clear h A B
  by_cases hz : c.a = 0
  · rw [if_pos hz]
    obtain ⟨cr, cg, cb, ca⟩ := c
    have hz : ca = 0 := hz
    subst hz
    go_enter Tryz.func29, Tryz.ntmps29
    go_wp2_with fail
    refine (HE.out _).mono ?_
    rintro e w1 ⟨rfl, hb1⟩
    have H1 : Hid (Below w.heap.size w w1) := (HL.out _ _).trans (hb1.mono (HL.out _ _).size)
    have A1 := HAB.out.1.below hb1
    have a0 := A1.cell 0
    have a13 := A1.cell 8
    clear hb1 HAB A1
    simp only [List.getElem?_toArray, List.getElem?_cons_zero, List.getElem?_cons_succ] at a0 a13
    go_wp2
    go_ret
    exact ⟨_, rfl, OwR.nil _ _, H1.out⟩
  · rw [if_neg hz]
    have z1 : (c.a == 0) = false := beq_eq_false_iff_ne.2 hz
    go_enter Tryz.func29, Tryz.ntmps29
    go_wp2_with fail
    refine (HE.out _).mono ?_
    rintro e w1 ⟨rfl, hb1⟩
    have H1 : Hid (Below w.heap.size w w1 ∧ Bk w1 w.heap.size (#[.int .u8 (⟨4, q, c, b, t, n⟩ : St).k, .int .i64 (⟨4, q, c, b, t, n⟩ : St).r.x, .int .i64 (⟨4, q, c, b, t, n⟩ : St).r.y, .int .i64 (⟨4, q, c, b, t, n⟩ : St).r.w, .int .i64 (⟨4, q, c, b, t, n⟩ : St).r.h, .int .u8 (⟨4, q, c, b, t, n⟩ : St).c.r, .int .u8 (⟨4, q, c, b, t, n⟩ : St).c.g, .int .u8 (⟨4, q, c, b, t, n⟩ : St).c.b, .int .u8 (⟨4, q, c, b, t, n⟩ : St).c.a, .int .u8 (⟨4, q, c, b, t, n⟩ : St).b.r, .int .u8 (⟨4, q, c, b, t, n⟩ : St).b.g, .int .u8 (⟨4, q, c, b, t, n⟩ : St).b.b, .int .u8 (⟨4, q, c, b, t, n⟩ : St).b.a, .string (⟨4, q, c, b, t, n⟩ : St).t, .int .i64 (⟨4, q, c, b, t, n⟩ : St).n]) 48 ∧ Bk w1 (w.heap.size + 1) #[.int .i64 r.x, .int .i64 r.y, .int .i64 r.w, .int .i64 r.h] 44) := ⟨(HL.out _ _).trans (hb1.mono (HL.out _ _).size), HAB.out.1.below hb1, HAB.out.2.below hb1⟩
    clear hb1 HAB
    have cc := H1.out.2.1.cell
    have a0 := cc 0
    have a1 := cc 1
    have a2 := cc 2
    have a3 := cc 3
    have a4 := cc 4
    have a5 := cc 5
    have a6 := cc 6
    have a7 := cc 7
    have a8 := cc 8
    have a9 := cc 9
    have a10 := cc 10
    have a11 := cc 11
    have a12 := cc 12
    have a13 := cc 13
    have a14 := cc 14
    clear cc
    simp only [List.getElem?_toArray, List.getElem?_cons_zero, List.getElem?_cons_succ] at a0 a1 a2 a3 a4 a5 a6 a7 a8 a9 a10 a11 a12 a13 a14
    go_wp2_with fail
    refine (HD.out _).mono ?_
    rintro e w2 ⟨rfl, hb2⟩
    have H2 : Hid (Below w.heap.size w w2 ∧ Bk w2 w.heap.size (#[.int .u8 (⟨4, q, c, b, t, n⟩ : St).k, .int .i64 (⟨4, q, c, b, t, n⟩ : St).r.x, .int .i64 (⟨4, q, c, b, t, n⟩ : St).r.y, .int .i64 (⟨4, q, c, b, t, n⟩ : St).r.w, .int .i64 (⟨4, q, c, b, t, n⟩ : St).r.h, .int .u8 (⟨4, q, c, b, t, n⟩ : St).c.r, .int .u8 (⟨4, q, c, b, t, n⟩ : St).c.g, .int .u8 (⟨4, q, c, b, t, n⟩ : St).c.b, .int .u8 (⟨4, q, c, b, t, n⟩ : St).c.a, .int .u8 (⟨4, q, c, b, t, n⟩ : St).b.r, .int .u8 (⟨4, q, c, b, t, n⟩ : St).b.g, .int .u8 (⟨4, q, c, b, t, n⟩ : St).b.b, .int .u8 (⟨4, q, c, b, t, n⟩ : St).b.a, .string (⟨4, q, c, b, t, n⟩ : St).t, .int .i64 (⟨4, q, c, b, t, n⟩ : St).n]) 48 ∧ Bk w2 (w.heap.size + 1) #[.int .i64 r.x, .int .i64 r.y, .int .i64 r.w, .int .i64 r.h] 44) := ⟨H1.out.1.trans (hb2.mono H1.out.1.size), H1.out.2.1.below hb2, H1.out.2.2.below hb2⟩
    clear hb2 H1 a0 a1 a2 a3 a4 a5 a6 a7 a8 a9 a10 a11 a12 a13 a14
    go_wp2
    go_ret
    exact ⟨_, rfl, OwR.nil _ _, H2.out.1⟩

set_option maxRecDepth 20000 in
set_option maxHeartbeats 4000000 in
theorem plc_five (q : Rc) (c b : Co) (t : ByteArray) (n : Int) (r : Rc) (w : World) (h : zEm r = false) :
    Calls Tryz.prog 29 #[(Value.agg #[.int .u8 (⟨5, q, c, b, t, n⟩ : St).k, .int .i64 (⟨5, q, c, b, t, n⟩ : St).r.x, .int .i64 (⟨5, q, c, b, t, n⟩ : St).r.y, .int .i64 (⟨5, q, c, b, t, n⟩ : St).r.w, .int .i64 (⟨5, q, c, b, t, n⟩ : St).r.h, .int .u8 (⟨5, q, c, b, t, n⟩ : St).c.r, .int .u8 (⟨5, q, c, b, t, n⟩ : St).c.g, .int .u8 (⟨5, q, c, b, t, n⟩ : St).c.b, .int .u8 (⟨5, q, c, b, t, n⟩ : St).c.a, .int .u8 (⟨5, q, c, b, t, n⟩ : St).b.r, .int .u8 (⟨5, q, c, b, t, n⟩ : St).b.g, .int .u8 (⟨5, q, c, b, t, n⟩ : St).b.b, .int .u8 (⟨5, q, c, b, t, n⟩ : St).b.a, .string (⟨5, q, c, b, t, n⟩ : St).t, .int .i64 (⟨5, q, c, b, t, n⟩ : St).n]), .agg #[.int .i64 r.x, .int .i64 r.y, .int .i64 r.w, .int .i64 r.h]] w fun e w' => AnsP w (if c.a = 0 then [] else []) e w' := by
  have HL : Hid (∀ c d, Below w.heap.size w ((w.alloc c).alloc d)) := fun c d => ((Below.refl _ w).alloc (Nat.le_refl _) _).alloc (by simp) _
  have HE : Hid (∀ W, Calls Tryz.prog 43 #[.agg #[.int .i64 r.x, .int .i64 r.y, .int .i64 r.w, .int .i64 r.h]] W fun e w' => e = .returned (.bool false) ∧ Below W.heap.size W w') := fun W => by rw [← h]; exact rempty_any _ _ _ _ W
  have A : Bk ((w.alloc (.cells (#[.int .u8 (⟨5, q, c, b, t, n⟩ : St).k, .int .i64 (⟨5, q, c, b, t, n⟩ : St).r.x, .int .i64 (⟨5, q, c, b, t, n⟩ : St).r.y, .int .i64 (⟨5, q, c, b, t, n⟩ : St).r.w, .int .i64 (⟨5, q, c, b, t, n⟩ : St).r.h, .int .u8 (⟨5, q, c, b, t, n⟩ : St).c.r, .int .u8 (⟨5, q, c, b, t, n⟩ : St).c.g, .int .u8 (⟨5, q, c, b, t, n⟩ : St).c.b, .int .u8 (⟨5, q, c, b, t, n⟩ : St).c.a, .int .u8 (⟨5, q, c, b, t, n⟩ : St).b.r, .int .u8 (⟨5, q, c, b, t, n⟩ : St).b.g, .int .u8 (⟨5, q, c, b, t, n⟩ : St).b.b, .int .u8 (⟨5, q, c, b, t, n⟩ : St).b.a, .string (⟨5, q, c, b, t, n⟩ : St).t, .int .i64 (⟨5, q, c, b, t, n⟩ : St).n]) 48)).alloc (.cells #[.int .i64 r.x, .int .i64 r.y, .int .i64 r.w, .int .i64 r.h] 44)) w.heap.size (#[.int .u8 (⟨5, q, c, b, t, n⟩ : St).k, .int .i64 (⟨5, q, c, b, t, n⟩ : St).r.x, .int .i64 (⟨5, q, c, b, t, n⟩ : St).r.y, .int .i64 (⟨5, q, c, b, t, n⟩ : St).r.w, .int .i64 (⟨5, q, c, b, t, n⟩ : St).r.h, .int .u8 (⟨5, q, c, b, t, n⟩ : St).c.r, .int .u8 (⟨5, q, c, b, t, n⟩ : St).c.g, .int .u8 (⟨5, q, c, b, t, n⟩ : St).c.b, .int .u8 (⟨5, q, c, b, t, n⟩ : St).c.a, .int .u8 (⟨5, q, c, b, t, n⟩ : St).b.r, .int .u8 (⟨5, q, c, b, t, n⟩ : St).b.g, .int .u8 (⟨5, q, c, b, t, n⟩ : St).b.b, .int .u8 (⟨5, q, c, b, t, n⟩ : St).b.a, .string (⟨5, q, c, b, t, n⟩ : St).t, .int .i64 (⟨5, q, c, b, t, n⟩ : St).n]) 48 := (Bk.new w _ _).below ((Below.refl _ _).alloc (Nat.le_refl _) _)
  have B : Bk ((w.alloc (.cells (#[.int .u8 (⟨5, q, c, b, t, n⟩ : St).k, .int .i64 (⟨5, q, c, b, t, n⟩ : St).r.x, .int .i64 (⟨5, q, c, b, t, n⟩ : St).r.y, .int .i64 (⟨5, q, c, b, t, n⟩ : St).r.w, .int .i64 (⟨5, q, c, b, t, n⟩ : St).r.h, .int .u8 (⟨5, q, c, b, t, n⟩ : St).c.r, .int .u8 (⟨5, q, c, b, t, n⟩ : St).c.g, .int .u8 (⟨5, q, c, b, t, n⟩ : St).c.b, .int .u8 (⟨5, q, c, b, t, n⟩ : St).c.a, .int .u8 (⟨5, q, c, b, t, n⟩ : St).b.r, .int .u8 (⟨5, q, c, b, t, n⟩ : St).b.g, .int .u8 (⟨5, q, c, b, t, n⟩ : St).b.b, .int .u8 (⟨5, q, c, b, t, n⟩ : St).b.a, .string (⟨5, q, c, b, t, n⟩ : St).t, .int .i64 (⟨5, q, c, b, t, n⟩ : St).n]) 48)).alloc (.cells #[.int .i64 r.x, .int .i64 r.y, .int .i64 r.w, .int .i64 r.h] 44)) (w.heap.size + 1) #[.int .i64 r.x, .int .i64 r.y, .int .i64 r.w, .int .i64 r.h] 44 := by have := Bk.new (w.alloc (.cells (#[.int .u8 (⟨5, q, c, b, t, n⟩ : St).k, .int .i64 (⟨5, q, c, b, t, n⟩ : St).r.x, .int .i64 (⟨5, q, c, b, t, n⟩ : St).r.y, .int .i64 (⟨5, q, c, b, t, n⟩ : St).r.w, .int .i64 (⟨5, q, c, b, t, n⟩ : St).r.h, .int .u8 (⟨5, q, c, b, t, n⟩ : St).c.r, .int .u8 (⟨5, q, c, b, t, n⟩ : St).c.g, .int .u8 (⟨5, q, c, b, t, n⟩ : St).c.b, .int .u8 (⟨5, q, c, b, t, n⟩ : St).c.a, .int .u8 (⟨5, q, c, b, t, n⟩ : St).b.r, .int .u8 (⟨5, q, c, b, t, n⟩ : St).b.g, .int .u8 (⟨5, q, c, b, t, n⟩ : St).b.b, .int .u8 (⟨5, q, c, b, t, n⟩ : St).b.a, .string (⟨5, q, c, b, t, n⟩ : St).t, .int .i64 (⟨5, q, c, b, t, n⟩ : St).n]) 48)) #[.int .i64 r.x, .int .i64 r.y, .int .i64 r.w, .int .i64 r.h] 44; simpa using this
  have HD : Hid (∀ W, Calls Tryz.prog 25 #[(Value.agg #[.int .u8 (⟨5, q, c, b, t, n⟩ : St).k, .int .i64 (⟨5, q, c, b, t, n⟩ : St).r.x, .int .i64 (⟨5, q, c, b, t, n⟩ : St).r.y, .int .i64 (⟨5, q, c, b, t, n⟩ : St).r.w, .int .i64 (⟨5, q, c, b, t, n⟩ : St).r.h, .int .u8 (⟨5, q, c, b, t, n⟩ : St).c.r, .int .u8 (⟨5, q, c, b, t, n⟩ : St).c.g, .int .u8 (⟨5, q, c, b, t, n⟩ : St).c.b, .int .u8 (⟨5, q, c, b, t, n⟩ : St).c.a, .int .u8 (⟨5, q, c, b, t, n⟩ : St).b.r, .int .u8 (⟨5, q, c, b, t, n⟩ : St).b.g, .int .u8 (⟨5, q, c, b, t, n⟩ : St).b.b, .int .u8 (⟨5, q, c, b, t, n⟩ : St).b.a, .string (⟨5, q, c, b, t, n⟩ : St).t, .int .i64 (⟨5, q, c, b, t, n⟩ : St).n])] W fun e w' => e = .returned (.bool false) ∧ Below W.heap.size W w') := fun W => zdraws_any (⟨5, q, c, b, t, n⟩ : St) W
  have HAB : Hid (Bk ((w.alloc (.cells (#[.int .u8 (⟨5, q, c, b, t, n⟩ : St).k, .int .i64 (⟨5, q, c, b, t, n⟩ : St).r.x, .int .i64 (⟨5, q, c, b, t, n⟩ : St).r.y, .int .i64 (⟨5, q, c, b, t, n⟩ : St).r.w, .int .i64 (⟨5, q, c, b, t, n⟩ : St).r.h, .int .u8 (⟨5, q, c, b, t, n⟩ : St).c.r, .int .u8 (⟨5, q, c, b, t, n⟩ : St).c.g, .int .u8 (⟨5, q, c, b, t, n⟩ : St).c.b, .int .u8 (⟨5, q, c, b, t, n⟩ : St).c.a, .int .u8 (⟨5, q, c, b, t, n⟩ : St).b.r, .int .u8 (⟨5, q, c, b, t, n⟩ : St).b.g, .int .u8 (⟨5, q, c, b, t, n⟩ : St).b.b, .int .u8 (⟨5, q, c, b, t, n⟩ : St).b.a, .string (⟨5, q, c, b, t, n⟩ : St).t, .int .i64 (⟨5, q, c, b, t, n⟩ : St).n]) 48)).alloc (.cells #[.int .i64 r.x, .int .i64 r.y, .int .i64 r.w, .int .i64 r.h] 44)) w.heap.size (#[.int .u8 (⟨5, q, c, b, t, n⟩ : St).k, .int .i64 (⟨5, q, c, b, t, n⟩ : St).r.x, .int .i64 (⟨5, q, c, b, t, n⟩ : St).r.y, .int .i64 (⟨5, q, c, b, t, n⟩ : St).r.w, .int .i64 (⟨5, q, c, b, t, n⟩ : St).r.h, .int .u8 (⟨5, q, c, b, t, n⟩ : St).c.r, .int .u8 (⟨5, q, c, b, t, n⟩ : St).c.g, .int .u8 (⟨5, q, c, b, t, n⟩ : St).c.b, .int .u8 (⟨5, q, c, b, t, n⟩ : St).c.a, .int .u8 (⟨5, q, c, b, t, n⟩ : St).b.r, .int .u8 (⟨5, q, c, b, t, n⟩ : St).b.g, .int .u8 (⟨5, q, c, b, t, n⟩ : St).b.b, .int .u8 (⟨5, q, c, b, t, n⟩ : St).b.a, .string (⟨5, q, c, b, t, n⟩ : St).t, .int .i64 (⟨5, q, c, b, t, n⟩ : St).n]) 48 ∧ Bk ((w.alloc (.cells (#[.int .u8 (⟨5, q, c, b, t, n⟩ : St).k, .int .i64 (⟨5, q, c, b, t, n⟩ : St).r.x, .int .i64 (⟨5, q, c, b, t, n⟩ : St).r.y, .int .i64 (⟨5, q, c, b, t, n⟩ : St).r.w, .int .i64 (⟨5, q, c, b, t, n⟩ : St).r.h, .int .u8 (⟨5, q, c, b, t, n⟩ : St).c.r, .int .u8 (⟨5, q, c, b, t, n⟩ : St).c.g, .int .u8 (⟨5, q, c, b, t, n⟩ : St).c.b, .int .u8 (⟨5, q, c, b, t, n⟩ : St).c.a, .int .u8 (⟨5, q, c, b, t, n⟩ : St).b.r, .int .u8 (⟨5, q, c, b, t, n⟩ : St).b.g, .int .u8 (⟨5, q, c, b, t, n⟩ : St).b.b, .int .u8 (⟨5, q, c, b, t, n⟩ : St).b.a, .string (⟨5, q, c, b, t, n⟩ : St).t, .int .i64 (⟨5, q, c, b, t, n⟩ : St).n]) 48)).alloc (.cells #[.int .i64 r.x, .int .i64 r.y, .int .i64 r.w, .int .i64 r.h] 44)) (w.heap.size + 1) #[.int .i64 r.x, .int .i64 r.y, .int .i64 r.w, .int .i64 r.h] 44) := ⟨A, B⟩
  clear h A B
  by_cases hz : c.a = 0
  · rw [if_pos hz]
    obtain ⟨cr, cg, cb, ca⟩ := c
    have hz : ca = 0 := hz
    subst hz
    go_enter Tryz.func29, Tryz.ntmps29
    go_wp2_with fail
    refine (HE.out _).mono ?_
    rintro e w1 ⟨rfl, hb1⟩
    have H1 : Hid (Below w.heap.size w w1) := (HL.out _ _).trans (hb1.mono (HL.out _ _).size)
    have A1 := HAB.out.1.below hb1
    have a0 := A1.cell 0
    have a13 := A1.cell 8
    clear hb1 HAB A1
    simp only [List.getElem?_toArray, List.getElem?_cons_zero, List.getElem?_cons_succ] at a0 a13
    go_wp2
    go_ret
    exact ⟨_, rfl, OwR.nil _ _, H1.out⟩
  · rw [if_neg hz]
    have z1 : (c.a == 0) = false := beq_eq_false_iff_ne.2 hz
    go_enter Tryz.func29, Tryz.ntmps29
    go_wp2_with fail
    refine (HE.out _).mono ?_
    rintro e w1 ⟨rfl, hb1⟩
    have H1 : Hid (Below w.heap.size w w1 ∧ Bk w1 w.heap.size (#[.int .u8 (⟨5, q, c, b, t, n⟩ : St).k, .int .i64 (⟨5, q, c, b, t, n⟩ : St).r.x, .int .i64 (⟨5, q, c, b, t, n⟩ : St).r.y, .int .i64 (⟨5, q, c, b, t, n⟩ : St).r.w, .int .i64 (⟨5, q, c, b, t, n⟩ : St).r.h, .int .u8 (⟨5, q, c, b, t, n⟩ : St).c.r, .int .u8 (⟨5, q, c, b, t, n⟩ : St).c.g, .int .u8 (⟨5, q, c, b, t, n⟩ : St).c.b, .int .u8 (⟨5, q, c, b, t, n⟩ : St).c.a, .int .u8 (⟨5, q, c, b, t, n⟩ : St).b.r, .int .u8 (⟨5, q, c, b, t, n⟩ : St).b.g, .int .u8 (⟨5, q, c, b, t, n⟩ : St).b.b, .int .u8 (⟨5, q, c, b, t, n⟩ : St).b.a, .string (⟨5, q, c, b, t, n⟩ : St).t, .int .i64 (⟨5, q, c, b, t, n⟩ : St).n]) 48 ∧ Bk w1 (w.heap.size + 1) #[.int .i64 r.x, .int .i64 r.y, .int .i64 r.w, .int .i64 r.h] 44) := ⟨(HL.out _ _).trans (hb1.mono (HL.out _ _).size), HAB.out.1.below hb1, HAB.out.2.below hb1⟩
    clear hb1 HAB
    have cc := H1.out.2.1.cell
    have a0 := cc 0
    have a1 := cc 1
    have a2 := cc 2
    have a3 := cc 3
    have a4 := cc 4
    have a5 := cc 5
    have a6 := cc 6
    have a7 := cc 7
    have a8 := cc 8
    have a9 := cc 9
    have a10 := cc 10
    have a11 := cc 11
    have a12 := cc 12
    have a13 := cc 13
    have a14 := cc 14
    clear cc
    simp only [List.getElem?_toArray, List.getElem?_cons_zero, List.getElem?_cons_succ] at a0 a1 a2 a3 a4 a5 a6 a7 a8 a9 a10 a11 a12 a13 a14
    go_wp2_with fail
    refine (HD.out _).mono ?_
    rintro e w2 ⟨rfl, hb2⟩
    have H2 : Hid (Below w.heap.size w w2 ∧ Bk w2 w.heap.size (#[.int .u8 (⟨5, q, c, b, t, n⟩ : St).k, .int .i64 (⟨5, q, c, b, t, n⟩ : St).r.x, .int .i64 (⟨5, q, c, b, t, n⟩ : St).r.y, .int .i64 (⟨5, q, c, b, t, n⟩ : St).r.w, .int .i64 (⟨5, q, c, b, t, n⟩ : St).r.h, .int .u8 (⟨5, q, c, b, t, n⟩ : St).c.r, .int .u8 (⟨5, q, c, b, t, n⟩ : St).c.g, .int .u8 (⟨5, q, c, b, t, n⟩ : St).c.b, .int .u8 (⟨5, q, c, b, t, n⟩ : St).c.a, .int .u8 (⟨5, q, c, b, t, n⟩ : St).b.r, .int .u8 (⟨5, q, c, b, t, n⟩ : St).b.g, .int .u8 (⟨5, q, c, b, t, n⟩ : St).b.b, .int .u8 (⟨5, q, c, b, t, n⟩ : St).b.a, .string (⟨5, q, c, b, t, n⟩ : St).t, .int .i64 (⟨5, q, c, b, t, n⟩ : St).n]) 48 ∧ Bk w2 (w.heap.size + 1) #[.int .i64 r.x, .int .i64 r.y, .int .i64 r.w, .int .i64 r.h] 44) := ⟨H1.out.1.trans (hb2.mono H1.out.1.size), H1.out.2.1.below hb2, H1.out.2.2.below hb2⟩
    clear hb2 H1 a0 a1 a2 a3 a4 a5 a6 a7 a8 a9 a10 a11 a12 a13 a14
    go_wp2
    go_ret
    exact ⟨_, rfl, OwR.nil _ _, H2.out.1⟩

end Go.Proofs.YtbghjmkgicdnoaaGreat
