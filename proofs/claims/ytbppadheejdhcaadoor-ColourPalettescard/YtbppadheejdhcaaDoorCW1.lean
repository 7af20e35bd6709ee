/-
  Boxes of colours; contracts of what two weights make of two numbers.
-/
import Derived.Test.YtbppadheejdhcaaDoorW3
import Derived.Test.YtbppadheejdhcaaDoorReg2
import Derived.Test.YtbppadheejdhcaaDoorCP
import Derived.Deep.RegionWith
import Derived.Deep.DeepCutAuto
namespace Go.Proofs.YtbppadheejdhcaaDoor
open Go.RowKit

/-- A block that holds a colour. -/
def AtC (w : World) (k : Nat) (c : Co) : Prop := w.cell? ⟨k, 0, none⟩ = some (.int .u8 c.r) ∧ w.cell? ⟨k, 1, none⟩ = some (.int .u8 c.g) ∧ w.cell? ⟨k, 2, none⟩ = some (.int .u8 c.b) ∧ w.cell? ⟨k, 3, none⟩ = some (.int .u8 c.a)
theorem AtC.drew {w : World} {k : Nat} {c : Co} (h : AtC w k c) : AtC w.drew k c := h
theorem AtC.lt {w : World} {k : Nat} {c : Co} (h : AtC w k c) : k < w.heap.size := lt_of_cell h.1
theorem AtC.below {W w1 : World} {k : Nat} {c : Co} (h : AtC W k c) (hb : Below W.heap.size W w1) : AtC w1 k c := by
  have e := keepAt hb h.1
  exact ⟨(e 0).trans h.1, (e 1).trans h.2.1, (e 2).trans h.2.2.1, (e 3).trans h.2.2.2⟩
theorem AtC.alloc {w : World} {k : Nat} {c : Co} (h : AtC w k c) (o : Obj) : AtC (w.alloc o) k c := h.below ((Below.refl _ _).alloc (Nat.le_refl _) o)
theorem AtC.new (w : World) (r g b a : Int) (t : TypeId) : AtC (w.alloc (.cells #[.int .u8 r, .int .u8 g, .int .u8 b, .int .u8 a] t)) w.heap.size ⟨r, g, b, a⟩ := by
  unfold AtC; simp
theorem AtC.new' (w : World) (k : Nat) (r g b a : Int) (t : TypeId) (h : k = w.heap.size) : AtC (w.alloc (.cells #[.int .u8 r, .int .u8 g, .int .u8 b, .int .u8 a] t)) k ⟨r, g, b, a⟩ := by
  rw [h]; exact AtC.new w r g b a t
theorem AtC.set {w : World} {k : Nat} {c : Co} (h : AtC w k c) {p : Addr} (v : Value) (hp : p.block ≠ k) : AtC (w.setCell p v) k c := by
  have e : ∀ o, (w.setCell p v).cell? ⟨k, o, none⟩ = w.cell? ⟨k, o, none⟩ := fun o => World.cell?_setCell_other w p ⟨k, o, none⟩ v (fun e => hp (by rw [e]))
  exact ⟨(e 0).trans h.1, (e 1).trans h.2.1, (e 2).trans h.2.2.1, (e 3).trans h.2.2.2⟩
theorem AtC.put {w : World} {k : Nat} {c : Co} (h : AtC w k c) (r g b a : Int) : AtC ((((w.setCell ⟨k, 0, none⟩ (.int .u8 r)).setCell ⟨k, 1, none⟩ (.int .u8 g)).setCell ⟨k, 2, none⟩ (.int .u8 b)).setCell ⟨k, 3, none⟩ (.int .u8 a)) k ⟨r, g, b, a⟩ := by
  obtain ⟨h0, h1, h2, h3⟩ := h
  unfold AtC
  simp [go_sem, h0, h1, h2, h3]
theorem gwC {W : World} {k : Nat} {c : Co} (h : AtC W k c) (t : Gw W) : AtC t.wd k c := h.below t.below

set_option maxHeartbeats 400000 in
theorem shared_any (x y p q : Int) (w : World) (hx : By x) (hy : By y) (hp : 0 ≤ p) (hp' : p ≤ 65025) (hq : 0 ≤ q) (hq' : q ≤ 65025) (h : 0 < p + q) :
    Calls Tryd.prog 23 #[.int .u8 x, .int .u8 y, .int .i64 p, .int .i64 q] w fun e w' => e = .returned (.int .u8 (shr x y p q)) ∧ w' = w := by
  have hs := shr_by hx hy hp hq h
  obtain ⟨x1, x2⟩ := hx
  obtain ⟨y1, y2⟩ := hy
  obtain ⟨s1, s2⟩ := hs
  have m1 : 0 ≤ p * x := Int.mul_nonneg hp x1
  have m2 : p * x ≤ 65025 * 255 := Int.mul_le_mul hp' x2 x1 (by omega)
  have m3 : 0 ≤ q * y := Int.mul_nonneg hq y1
  have m4 : q * y ≤ 65025 * 255 := Int.mul_le_mul hq' y2 y1 (by omega)
  go_enter Tryd.func23, Tryd.ntmps23
  go_wp2
  go_ret
  have e : shr x y p q % 256 = shr x y p q := Int.emod_eq_of_lt s1 (by omega)
  exact ⟨congrArg (fun z => Ending.returned (.int .u8 z)) e, rfl⟩

/-- What a call that takes two colours and answers one has laid when it begins. -/
theorem boxes_ccc (w : World) (a b : Co) (t t' t'' : TypeId) : AtC (((w.alloc (.cells #[.int .u8 a.r, .int .u8 a.g, .int .u8 a.b, .int .u8 a.a] t)).alloc (.cells #[.int .u8 b.r, .int .u8 b.g, .int .u8 b.b, .int .u8 b.a] t')).alloc (.cells #[.int .u8 0, .int .u8 0, .int .u8 0, .int .u8 0] t'')) w.heap.size a ∧
    AtC (((w.alloc (.cells #[.int .u8 a.r, .int .u8 a.g, .int .u8 a.b, .int .u8 a.a] t)).alloc (.cells #[.int .u8 b.r, .int .u8 b.g, .int .u8 b.b, .int .u8 b.a] t')).alloc (.cells #[.int .u8 0, .int .u8 0, .int .u8 0, .int .u8 0] t'')) (w.heap.size + 1) b ∧
    AtC (((w.alloc (.cells #[.int .u8 a.r, .int .u8 a.g, .int .u8 a.b, .int .u8 a.a] t)).alloc (.cells #[.int .u8 b.r, .int .u8 b.g, .int .u8 b.b, .int .u8 b.a] t')).alloc (.cells #[.int .u8 0, .int .u8 0, .int .u8 0, .int .u8 0] t'')) (w.heap.size + 1 + 1) ⟨0, 0, 0, 0⟩ ∧
    Fr (((w.alloc (.cells #[.int .u8 a.r, .int .u8 a.g, .int .u8 a.b, .int .u8 a.a] t)).alloc (.cells #[.int .u8 b.r, .int .u8 b.g, .int .u8 b.b, .int .u8 b.a] t')).alloc (.cells #[.int .u8 0, .int .u8 0, .int .u8 0, .int .u8 0] t'')) (w.heap.size + 1 + 1) ∧
    Below w.heap.size w (((w.alloc (.cells #[.int .u8 a.r, .int .u8 a.g, .int .u8 a.b, .int .u8 a.a] t)).alloc (.cells #[.int .u8 b.r, .int .u8 b.g, .int .u8 b.b, .int .u8 b.a] t')).alloc (.cells #[.int .u8 0, .int .u8 0, .int .u8 0, .int .u8 0] t'')) := by
  have B := (AtC.new (w.alloc (.cells #[.int .u8 a.r, .int .u8 a.g, .int .u8 a.b, .int .u8 a.a] t)) b.r b.g b.b b.a t').alloc (.cells #[.int .u8 0, .int .u8 0, .int .u8 0, .int .u8 0] t'')
  have C := AtC.new ((w.alloc (.cells #[.int .u8 a.r, .int .u8 a.g, .int .u8 a.b, .int .u8 a.a] t)).alloc (.cells #[.int .u8 b.r, .int .u8 b.g, .int .u8 b.b, .int .u8 b.a] t')) 0 0 0 0 t''
  simp only [World.size_alloc] at B C
  exact ⟨((AtC.new w a.r a.g a.b a.a t).alloc _).alloc _, B, C, fr2 _ _ _ _ _, (((Below.refl _ w).alloc (Nat.le_refl _) _).alloc (by simp) _).alloc (by simp; omega) _⟩

set_option maxHeartbeats 1000000 in
theorem over_any (a b : Co) (w : World) (ha : a.ok) (hb : b.ok) :
    Calls Tryd.prog 8 #[(Value.agg #[.int .u8 a.r, .int .u8 a.g, .int .u8 a.b, .int .u8 a.a]), (Value.agg #[.int .u8 b.r, .int .u8 b.g, .int .u8 b.b, .int .u8 b.a])] w fun e w' => e = .returned (Value.agg #[.int .u8 (overC a b).r, .int .u8 (overC a b).g, .int .u8 (overC a b).b, .int .u8 (overC a b).a]) ∧ Below w.heap.size w w' := by
  by_cases c0 : a.a = 0
  · rw [show overC a b = b by unfold overC; rw [if_pos c0]]
    go_enter Tryd.func8, Tryd.ntmps8
    go_wp2
    exact bodyPost_ret (v := (Value.agg #[.int .u8 b.r, .int .u8 b.g, .int .u8 b.b, .int .u8 b.a])) (by simp [results, Tryd.results8, go_sem]) rfl ⟨rfl, (((Below.refl _ w).alloc (Nat.le_refl _) _).alloc (by simp) _).alloc (by simp; omega) _⟩
  · have c1 : (a.a == 0) = false := by simpa using c0
    rw [show overC a b = ⟨shr a.r b.r (fro a) (beh a b), shr a.g b.g (fro a) (beh a b), shr a.b b.b (fro a) (beh a b), (fro a + beh a b + 127) / 255⟩ by unfold overC; rw [if_neg c0]]
    obtain ⟨w1, w2, w3, w4, w5⟩ := wts ha hb
    have w6 := wts_pos ha hb c0
    have hS : Hid (∀ x y w, By x → By y → Calls Tryd.prog 23 #[.int .u8 x, .int .u8 y, .int .i64 (255 * a.a), .int .i64 ((255 - a.a) * b.a)] w fun e w' => e = .returned (.int .u8 (shr x y (fro a) (beh a b))) ∧ w' = w) :=
      fun x y w hx hy => shared_any x y _ _ w hx hy w1 w2 w3 w4 w6
    have hA : Hid (a.ok ∧ b.ok) := ⟨ha, hb⟩
    obtain ⟨_, _, _, a1, a2⟩ := id ha
    obtain ⟨_, _, _, b1, b2⟩ := id hb
    simp only [fro, beh] at w1 w2 w3 w4 w5 w6
    go_enter Tryd.func8, Tryd.ntmps8
    go_wp2_with fail
    obtain ⟨A, B, C, F, L⟩ := boxes_ccc w a b 25 25 25
    clear ha hb
    generalize hW : ((w.alloc (.cells #[.int .u8 a.r, .int .u8 a.g, .int .u8 a.b, .int .u8 a.a] 25)).alloc (.cells #[.int .u8 b.r, .int .u8 b.g, .int .u8 b.b, .int .u8 b.a] 25)).alloc (.cells #[.int .u8 0, .int .u8 0, .int .u8 0, .int .u8 0] 25) = W at *
    have HL : Hid (AtC W w.heap.size a ∧ AtC W (w.heap.size + 1) b ∧ AtC W (w.heap.size + 1 + 1) ⟨0, 0, 0, 0⟩ ∧ Fr W (w.heap.size + 1 + 1) ∧ Below w.heap.size w W) := ⟨A, B, C, F, L⟩
    clear A B C F L hW
    refine wp_region_lit 24 0 1 (fun _ => .cells #[] 0) [] (by kernel_rfl) (by kernel_rfl) rfl (fun k hk => absurd hk (by omega)) rfl (fun i h1 h2 => absurd h2 (by omega)) ?_
    apply Exists.intro
    refine ⟨fun bs ne => ?_, ?_⟩
    · obtain ⟨HA, HB, _⟩ := HL.out
      have d0 := fun t : Gb W bs => (HA.below t.below).1
      have d1 := fun t : Gb W bs => (HA.below t.below).2.1
      have d2 := fun t : Gb W bs => (HA.below t.below).2.2.1
      have d3 := fun t : Gb W bs => (HA.below t.below).2.2.2
      have e0 := fun t : Gb W bs => (HB.below t.below).1
      have e1 := fun t : Gb W bs => (HB.below t.below).2.1
      have e2 := fun t : Gb W bs => (HB.below t.below).2.2.1
      have e3 := fun t : Gb W bs => (HB.below t.below).2.2.2
      clear HA HB
      simp only [List.take_succ_cons, List.take_zero]
      repeat (go_big_quiet_step (first
        | (go_at_call_of 23 (Value.int .u8 a.r); exact gb_same (hS.out _ _ _ hA.out.1.1 hA.out.2.1))
        | (go_at_call_of 23 (Value.int .u8 a.g); exact gb_same (hS.out _ _ _ hA.out.1.2.1 hA.out.2.2.1))
        | (go_at_call_of 23 (Value.int .u8 a.b); exact gb_same (hS.out _ _ _ hA.out.1.2.2.1 hA.out.2.2.2.1))))
      exact wpQuiet_nil rfl
    · intro bl wr hb _ _
      obtain ⟨HA, HB, HC, HF, HD⟩ := HL.out
      replace HC := HC.below hb
      replace HF := (HF.below hb).2
      replace HD := HD.trans (hb.mono HD.size)
      obtain ⟨c0, c1, c2, c3⟩ := HC
      simp only [layL]
      refine wpAny_one 24 (by kernel_rfl) rfl ?_
      intro K hK
      go_simp
      refine hK _ _ ?_
      clear hK K
      refine wpAny_done (by kernel_rfl) ?_ _
      go_wp2
      exact bodyPost_ret (v := .agg #[.int .u8 _, .int .u8 _, .int .u8 _, .int .u8 _]) (by simp [results, Tryd.results8, go_sem, c0, c1, c2, c3, fro, beh]) rfl ⟨rfl, set4_below HD (by omega) _ _ _ _⟩

end Go.Proofs.YtbppadheejdhcaaDoor
