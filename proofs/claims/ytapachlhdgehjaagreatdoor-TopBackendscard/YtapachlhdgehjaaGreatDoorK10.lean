/-
  Texts of this claim, one behind the other: what each is about stands ahead of it.
-/
import Derived.Test.YtapachlhdgehjaaGreatDoorK0
import Derived.Test.YtapachlhdgehjaaGreatDoorK1
import Derived.Test.YtapachlhdgehjaaGreatDoorK2
import Derived.Deep.RegionWith
import Derived.Deep.DeepCutAuto
import Derived.Test.YtapachlhdgehjaaGreatDoorK7
import Derived.Laws.CopyOwn
import Derived.Laws.Rows
/-
  Boxes of colours; contracts of what two weights make of two numbers.
-/
namespace Go.Proofs.YtapachlhdgehjaaGreatDoor
open Go.RowKit

def AtC (w : World) (k : Nat) (c : Co) : Prop := w.cell? ⟨k, 0, none⟩ = some (.int .u8 c.r) ∧ w.cell? ⟨k, 1, none⟩ = some (.int .u8 c.g) ∧ w.cell? ⟨k, 2, none⟩ = some (.int .u8 c.b) ∧ w.cell? ⟨k, 3, none⟩ = some (.int .u8 c.a)
theorem AtC.below {W w1 : World} {k : Nat} {c : Co} (h : AtC W k c) (hb : Below W.heap.size W w1) : AtC w1 k c := by
  have e := keepAt hb h.1
  exact ⟨(e 0).trans h.1, (e 1).trans h.2.1, (e 2).trans h.2.2.1, (e 3).trans h.2.2.2⟩
theorem AtC.alloc {w : World} {k : Nat} {c : Co} (h : AtC w k c) (o : Obj) : AtC (w.alloc o) k c := h.below ((Below.refl _ _).alloc (Nat.le_refl _) o)
theorem AtC.new (w : World) (r g b a : Int) (t : TypeId) : AtC (w.alloc (.cells #[.int .u8 r, .int .u8 g, .int .u8 b, .int .u8 a] t)) w.heap.size ⟨r, g, b, a⟩ := by
  unfold AtC; simp
theorem AtC.set {w : World} {k : Nat} {c : Co} (h : AtC w k c) {p : Addr} (v : Value) (hp : p.block ≠ k) : AtC (w.setCell p v) k c := by
  have e : ∀ o, (w.setCell p v).cell? ⟨k, o, none⟩ = w.cell? ⟨k, o, none⟩ := fun o => World.cell?_setCell_other w p ⟨k, o, none⟩ v (fun e => hp (by rw [e]))
  exact ⟨(e 0).trans h.1, (e 1).trans h.2.1, (e 2).trans h.2.2.1, (e 3).trans h.2.2.2⟩
theorem AtC.put {w : World} {k : Nat} {c : Co} (h : AtC w k c) (r g b a : Int) : AtC ((((w.setCell ⟨k, 0, none⟩ (.int .u8 r)).setCell ⟨k, 1, none⟩ (.int .u8 g)).setCell ⟨k, 2, none⟩ (.int .u8 b)).setCell ⟨k, 3, none⟩ (.int .u8 a)) k ⟨r, g, b, a⟩ := by
  obtain ⟨h0, h1, h2, h3⟩ := h
  unfold AtC
  simp [go_sem, h0, h1, h2, h3]
set_option maxHeartbeats 400000 in
theorem sharC_any (x y p q : Int) (w : World) (hx : By x) (hy : By y) (hp : 0 ≤ p) (hp' : p ≤ 65025) (hq : 0 ≤ q) (hq' : q ≤ 65025) (h : 0 < p + q) :
    Calls Tryz.prog 129 #[.int .u8 x, .int .u8 y, .int .i64 p, .int .i64 q] w fun e w' => e = .returned (.int .u8 (shr x y p q)) ∧ w' = w := by
  have hs := shr_by hx hy hp hq h
  obtain ⟨x1, x2⟩ := hx
  obtain ⟨y1, y2⟩ := hy
  obtain ⟨s1, s2⟩ := hs
  have m1 : 0 ≤ p * x := Int.mul_nonneg hp x1
  have m2 : p * x ≤ 65025 * 255 := Int.mul_le_mul hp' x2 x1 (by omega)
  have m3 : 0 ≤ q * y := Int.mul_nonneg hq y1
  have m4 : q * y ≤ 65025 * 255 := Int.mul_le_mul hq' y2 y1 (by omega)
  go_enter Tryz.func129, Tryz.ntmps129
  go_wp2
  go_ret
  have e : shr x y p q % 256 = shr x y p q := Int.emod_eq_of_lt s1 (by omega)
  exact ⟨congrArg (fun z => Ending.returned (.int .u8 z)) e, rfl⟩

theorem boxes_ccc (w : World) (a b : Co) (t t' t'' : TypeId) : AtC (((w.alloc (.cells #[.int .u8 a.r, .int .u8 a.g, .int .u8 a.b, .int .u8 a.a] t)).alloc (.cells #[.int .u8 b.r, .int .u8 b.g, .int .u8 b.b, .int .u8 b.a] t')).alloc (.cells #[.int .u8 0, .int .u8 0, .int .u8 0, .int .u8 0] t'')) w.heap.size a ∧
    AtC (((w.alloc (.cells #[.int .u8 a.r, .int .u8 a.g, .int .u8 a.b, .int .u8 a.a] t)).alloc (.cells #[.int .u8 b.r, .int .u8 b.g, .int .u8 b.b, .int .u8 b.a] t')).alloc (.cells #[.int .u8 0, .int .u8 0, .int .u8 0, .int .u8 0] t'')) (w.heap.size + 1) b ∧
    AtC (((w.alloc (.cells #[.int .u8 a.r, .int .u8 a.g, .int .u8 a.b, .int .u8 a.a] t)).alloc (.cells #[.int .u8 b.r, .int .u8 b.g, .int .u8 b.b, .int .u8 b.a] t')).alloc (.cells #[.int .u8 0, .int .u8 0, .int .u8 0, .int .u8 0] t'')) (w.heap.size + 1 + 1) ⟨0, 0, 0, 0⟩ ∧
    Fr (((w.alloc (.cells #[.int .u8 a.r, .int .u8 a.g, .int .u8 a.b, .int .u8 a.a] t)).alloc (.cells #[.int .u8 b.r, .int .u8 b.g, .int .u8 b.b, .int .u8 b.a] t')).alloc (.cells #[.int .u8 0, .int .u8 0, .int .u8 0, .int .u8 0] t'')) (w.heap.size + 1 + 1) ∧
    Below w.heap.size w (((w.alloc (.cells #[.int .u8 a.r, .int .u8 a.g, .int .u8 a.b, .int .u8 a.a] t)).alloc (.cells #[.int .u8 b.r, .int .u8 b.g, .int .u8 b.b, .int .u8 b.a] t')).alloc (.cells #[.int .u8 0, .int .u8 0, .int .u8 0, .int .u8 0] t'')) := by
  have B := (AtC.new (w.alloc (.cells #[.int .u8 a.r, .int .u8 a.g, .int .u8 a.b, .int .u8 a.a] t)) b.r b.g b.b b.a t').alloc (.cells #[.int .u8 0, .int .u8 0, .int .u8 0, .int .u8 0] t'')
  have C := AtC.new ((w.alloc (.cells #[.int .u8 a.r, .int .u8 a.g, .int .u8 a.b, .int .u8 a.a] t)).alloc (.cells #[.int .u8 b.r, .int .u8 b.g, .int .u8 b.b, .int .u8 b.a] t')) 0 0 0 0 t''
  simp only [World.size_alloc] at B C
  exact ⟨((AtC.new w a.r a.g a.b a.a t).alloc _).alloc _, B, C, fr2 _ _ _ _ _, (((Below.refl _ w).alloc (Nat.le_refl _) _).alloc (by simp) _).alloc (by simp; omega) _⟩

set_option maxHeartbeats 1000000 in
theorem overK_any (a b : Co) (w : World) (ha : a.ok) (hb : b.ok) :
    Calls Tryz.prog 96 #[(Value.agg #[.int .u8 a.r, .int .u8 a.g, .int .u8 a.b, .int .u8 a.a]), (Value.agg #[.int .u8 b.r, .int .u8 b.g, .int .u8 b.b, .int .u8 b.a])] w fun e w' => e = .returned (Value.agg #[.int .u8 (overC a b).r, .int .u8 (overC a b).g, .int .u8 (overC a b).b, .int .u8 (overC a b).a]) ∧ Below w.heap.size w w' := by
  by_cases c0 : a.a = 0
  · rw [show overC a b = b by unfold overC; rw [if_pos c0]]
    go_enter Tryz.func96, Tryz.ntmps96
    go_wp2
    exact bodyPost_ret (v := (Value.agg #[.int .u8 b.r, .int .u8 b.g, .int .u8 b.b, .int .u8 b.a])) (by simp [results, Tryz.results96, go_sem]) rfl ⟨rfl, (((Below.refl _ w).alloc (Nat.le_refl _) _).alloc (by simp) _).alloc (by simp; omega) _⟩
  · have c1 : (a.a == 0) = false := by simpa using c0
    rw [show overC a b = ⟨shr a.r b.r (fro a) (beh a b), shr a.g b.g (fro a) (beh a b), shr a.b b.b (fro a) (beh a b), (fro a + beh a b + 127) / 255⟩ by unfold overC; rw [if_neg c0]]
    obtain ⟨w1, w2, w3, w4, w5⟩ := wts ha hb
    have w6 := wts_pos ha hb c0
    have hS : Hid (∀ x y w, By x → By y → Calls Tryz.prog 129 #[.int .u8 x, .int .u8 y, .int .i64 (255 * a.a), .int .i64 ((255 - a.a) * b.a)] w fun e w' => e = .returned (.int .u8 (shr x y (fro a) (beh a b))) ∧ w' = w) :=
      fun x y w hx hy => sharC_any x y _ _ w hx hy w1 w2 w3 w4 w6
    have hA : Hid (a.ok ∧ b.ok) := ⟨ha, hb⟩
    obtain ⟨_, _, _, a1, a2⟩ := id ha
    obtain ⟨_, _, _, b1, b2⟩ := id hb
    simp only [fro, beh] at w1 w2 w3 w4 w5 w6
    go_enter Tryz.func96, Tryz.ntmps96
    go_wp2_with fail
    obtain ⟨A, B, C, F, L⟩ := boxes_ccc w a b 38 38 38
    clear ha hb
    generalize hW : ((w.alloc (.cells #[.int .u8 a.r, .int .u8 a.g, .int .u8 a.b, .int .u8 a.a] 38)).alloc (.cells #[.int .u8 b.r, .int .u8 b.g, .int .u8 b.b, .int .u8 b.a] 38)).alloc (.cells #[.int .u8 0, .int .u8 0, .int .u8 0, .int .u8 0] 38) = W at *
    have HL : Hid (AtC W w.heap.size a ∧ AtC W (w.heap.size + 1) b ∧ AtC W (w.heap.size + 1 + 1) ⟨0, 0, 0, 0⟩ ∧ Fr W (w.heap.size + 1 + 1) ∧ Below w.heap.size w W) := ⟨A, B, C, F, L⟩
    clear A B C F L hW
    refine wp_region_lit 24 0 1 (fun _ => .cells #[] 0) [] (by kernel_rfl) (by kernel_rfl) rfl (fun k hk => absurd hk (by omega)) rfl (fun i h1 h2 => absurd h2 (by omega)) ?_
    apply Exists.intro
    refine ⟨fun bs ne => ?_, ?_⟩
    · obtain ⟨HA, HB, _⟩ := HL.out
      have d0 := fun t : Gb W bs => (HA.below t.below).1
      have d1 := fun t : Gb W bs => (HA.below t.below).2.1
      have d2 := fun t : Gb W bs => (HA.below t.below).2.2.1
      have d3 := fun t : Gb W bs => (HA.below t.below).2.2.2
      have e0 := fun t : Gb W bs => (HB.below t.below).1
      have e1 := fun t : Gb W bs => (HB.below t.below).2.1
      have e2 := fun t : Gb W bs => (HB.below t.below).2.2.1
      have e3 := fun t : Gb W bs => (HB.below t.below).2.2.2
      clear HA HB
      simp only [List.take_succ_cons, List.take_zero]
      repeat (go_big_quiet_step (first
        | (go_at_call_of 129 (Value.int .u8 a.r); exact gb_same (hS.out _ _ _ hA.out.1.1 hA.out.2.1))
        | (go_at_call_of 129 (Value.int .u8 a.g); exact gb_same (hS.out _ _ _ hA.out.1.2.1 hA.out.2.2.1))
        | (go_at_call_of 129 (Value.int .u8 a.b); exact gb_same (hS.out _ _ _ hA.out.1.2.2.1 hA.out.2.2.2.1))))
      exact wpQuiet_nil rfl
    · intro bl wr hb _ _
      obtain ⟨HA, HB, HC, HF, HD⟩ := HL.out
      replace HC := HC.below hb
      replace HF := (HF.below hb).2
      replace HD := HD.trans (hb.mono HD.size)
      obtain ⟨c0, c1, c2, c3⟩ := HC
      simp only [layL]
      refine wpAny_one 24 (by kernel_rfl) rfl ?_
      intro K hK
      go_simp
      refine hK _ _ ?_
      clear hK K
      refine wpAny_done (by kernel_rfl) ?_ _
      go_wp2
      exact bodyPost_ret (v := .agg #[.int .u8 _, .int .u8 _, .int .u8 _, .int .u8 _]) (by simp [results, Tryz.results96, go_sem, c0, c1, c2, c3, fro, beh]) rfl ⟨rfl, set4_below HD (by omega) _ _ _ _⟩

end Go.Proofs.YtapachlhdgehjaaGreatDoor

/-
  Package cells: wipe, tint, edges: what is made of a piece of a row.
-/
namespace Go.Proofs.YtapachlhdgehjaaGreatDoor
open Go.RowKit

theorem Bk.at11 {W : World} {b : Nat} {c : Ce} {t : TypeId} (h : Bk W b (#[.int .i32 c.r, .int .u8 c.c.r, .int .u8 c.c.g, .int .u8 c.c.b, .int .u8 c.c.a, .int .u8 c.b.r, .int .u8 c.b.g, .int .u8 c.b.b, .int .u8 c.b.a, .bool c.wd, .bool c.tl]) t) : CeAt W b 0 c := by
  rw [ceat_iff]
  intro j hj
  rw [Nat.zero_add, h.cell]
  show (cCel c).toArray[j]? = _
  rw [List.getElem?_toArray]
theorem ScM.look {lo : Nat} {w : World} {g n cap : Nat} {L : List Ce} (h : ScM lo w g n cap L) (k : Nat) (hk : k < L.length) (p : Nat) (hp : p = k * 11) : CeAt w g p L[k] := by
  rw [hp]
  exact h.at k hk
structure WiP (w : World) (lo g n cap o bc : Nat) (L : List Ce) (c : Ce) (k : Nat) (wr : World) : Prop where
  s : ScM lo wr g n cap (updR L o k fun _ _ => c)
  b : Bk wr bc (#[.int .i32 c.r, .int .u8 c.c.r, .int .u8 c.c.g, .int .u8 c.c.b, .int .u8 c.c.a, .int .u8 c.b.r, .int .u8 c.b.g, .int .u8 c.b.b, .int .u8 c.b.a, .bool c.wd, .bool c.tl]) 65
  g : w.grownBy wr (some g)

set_option maxRecDepth 10000 in
set_option maxHeartbeats 4000000 in
theorem wipe_any (lo g n cap o m c' B : Nat) (L : List Ce) (cb : Co) (w : World) (h : ScM lo w g n cap L) (hm : o + m ≤ n) (hB : B = o * 11) (hl : n ≤ 1000000) :
    Calls Tryz.prog 92 #[.slice (some ⟨g, B, none⟩) m c', (Value.agg #[.int .u8 cb.r, .int .u8 cb.g, .int .u8 cb.b, .int .u8 cb.a])] w fun e w' => e = .returned (.tuple #[]) ∧ ScM lo w' g n cap (updR L o m fun _ _ => (⟨32, coZ, cb, false, false⟩ : Ce)) ∧ w.grownBy w' (some g) := by
  obtain ⟨q, hq⟩ : ∃ q : Ce, q = ⟨32, coZ, cb, false, false⟩ := ⟨_, rfl⟩
  have HC : Hid (∀ W, Calls Tryz.prog 41 #[(Value.agg #[.int .u8 cb.r, .int .u8 cb.g, .int .u8 cb.b, .int .u8 cb.a])] W fun e w' => e = .returned (Value.agg #[.int .i32 q.r, .int .u8 q.c.r, .int .u8 q.c.g, .int .u8 q.c.b, .int .u8 q.c.a, .int .u8 q.b.r, .int .u8 q.b.g, .int .u8 q.b.b, .int .u8 q.b.a, .bool q.wd, .bool q.tl]) ∧ Below W.heap.size W w') := fun W => by rw [hq]; exact blank_any cb W
  have H0 : Hid (∀ W, Below (w.alloc (.cells #[.int .u8 cb.r, .int .u8 cb.g, .int .u8 cb.b, .int .u8 cb.a] 38)).heap.size (w.alloc (.cells #[.int .u8 cb.r, .int .u8 cb.g, .int .u8 cb.b, .int .u8 cb.a] 38)) W → WiP w lo g n cap o W.heap.size L q 0 (W.alloc (.cells (#[.int .i32 q.r, .int .u8 q.c.r, .int .u8 q.c.g, .int .u8 q.c.b, .int .u8 q.c.a, .int .u8 q.b.r, .int .u8 q.b.g, .int .u8 q.b.b, .int .u8 q.b.a, .bool q.wd, .bool q.tl]) 65)) ∧ g < W.heap.size) := fun W hW => by
    have h1 : Below w.heap.size w (w.alloc (.cells #[.int .u8 cb.r, .int .u8 cb.g, .int .u8 cb.b, .int .u8 cb.a] 38)) := (Below.refl _ w).alloc (Nat.le_refl _) _
    have h2 : Below w.heap.size w W := h1.trans (hW.mono h1.size)
    have h3 : Below w.heap.size w (W.alloc (.cells (#[.int .i32 q.r, .int .u8 q.c.r, .int .u8 q.c.g, .int .u8 q.c.b, .int .u8 q.c.a, .int .u8 q.b.r, .int .u8 q.b.g, .int .u8 q.b.b, .int .u8 q.b.a, .bool q.wd, .bool q.tl]) 65)) := h2.alloc h2.size _
    exact ⟨⟨by rw [updR_zero]; exact h.below h3, Bk.new _ _ _, ⟨h3.os, h3.tape, h3.output, h3.size, fun b hb _ => h3.block b hb⟩⟩, Nat.lt_of_lt_of_le h.lt.2 h2.size⟩
  have HL : Hid (L.length = n) := h.1
  have HB : Hid (B = o * 11) := hB
  rw [← hq]
  clear h hq hB
  go_enter Tryz.func92, Tryz.ntmps92
  go_wp2_with fail
  refine (HC.out _).mono ?_
  rintro e w1 ⟨rfl, hb⟩
  obtain ⟨h0, hg⟩ := H0.out _ hb
  have HI : Hid (WiP w lo g n cap o w1.heap.size L q 0 (w1.alloc (.cells (#[.int .i32 q.r, .int .u8 q.c.r, .int .u8 q.c.g, .int .u8 q.c.b, .int .u8 q.c.a, .int .u8 q.b.r, .int .u8 q.b.g, .int .u8 q.b.b, .int .u8 q.b.a, .bool q.wd, .bool q.tl]) 65))) := h0
  obtain ⟨bc, hbc⟩ : ∃ bc, bc = w1.heap.size := ⟨_, rfl⟩
  rw [← hbc] at HI hg
  have hne : g ≠ bc := by omega
  clear hb h0 H0 HC
  go_wp2_with fail
  rw [← hbc]
  clear hbc
  go_loopw [10] (fun i wr => ∃ k : Nat, k ≤ m ∧ i = .int .i64 k ∧ Hid (WiP w lo g n cap o bc L q k wr)) (fun i _ => m - (intOf i).toNat)
  case atStart => exact ⟨0, Nat.zero_le _, rfl, HI⟩
  case round =>
    obtain ⟨k, hk, rfl, HR⟩ := hrel
    clear HI
    by_cases hlt : k < m
    · have ik : (k : Int) < m := by omega
      have hkl : o + k < (updR L o k fun _ _ => q).length := by rw [updR_len, HL.out]; omega
      obtain ⟨d0, d1, d2, d3, d4, d5, d6, d7, d8, d9, d10⟩ := HR.out.b.at11
      simp only [Nat.zero_add] at d1 d2 d3 d4 d5 d6 d7 d8 d9 d10
      obtain ⟨e0, e1, e2, e3, e4, e5, e6, e7, e8, e9, e10⟩ := HR.out.s.look (o + k) hkl (B + k * 11) (by have := HB.out; omega)
      have ff := HR.out.s.frozen
      have f0 := ff (B + k * 11)
      have f1 := ff (B + k * 11 + 1)
      have f2 := ff (B + k * 11 + 2)
      have f3 := ff (B + k * 11 + 3)
      have f4 := ff (B + k * 11 + 4)
      have f5 := ff (B + k * 11 + 5)
      have f6 := ff (B + k * 11 + 6)
      have f7 := ff (B + k * 11 + 7)
      have f8 := ff (B + k * 11 + 8)
      have f9 := ff (B + k * 11 + 9)
      have f10 := ff (B + k * 11 + 10)
      clear ff
      generalize (updR L o k fun _ _ => q)[o + k] = z at *
      have HN : Hid (∀ W, W = (((((((((((wr).setCell ⟨g, B + k * 11, none⟩ (.int .i32 q.r)).setCell ⟨g, B + k * 11 + 1, none⟩ (.int .u8 q.c.r)).setCell ⟨g, B + k * 11 + 2, none⟩ (.int .u8 q.c.g)).setCell ⟨g, B + k * 11 + 3, none⟩ (.int .u8 q.c.b)).setCell ⟨g, B + k * 11 + 4, none⟩ (.int .u8 q.c.a)).setCell ⟨g, B + k * 11 + 5, none⟩ (.int .u8 q.b.r)).setCell ⟨g, B + k * 11 + 6, none⟩ (.int .u8 q.b.g)).setCell ⟨g, B + k * 11 + 7, none⟩ (.int .u8 q.b.b)).setCell ⟨g, B + k * 11 + 8, none⟩ (.int .u8 q.b.a)).setCell ⟨g, B + k * 11 + 9, none⟩ (.bool q.wd)).setCell ⟨g, B + k * 11 + 10, none⟩ (.bool q.tl) → WiP w lo g n cap o bc L q (k + 1) W) := fun W hW => by
        have hL := HL.out
        refine ⟨?_, ?_, ?_⟩
        · have := HR.out.s.put (o + k) hkl (B + k * 11) (by have := HB.out; omega) q
          have e := updR_next L o k (fun _ _ => q) (by omega)
          rw [← e, hW]
          exact this
        · rw [hW]
          exact (((((((((((HR.out.b).other _ _ hne).other _ _ hne).other _ _ hne).other _ _ hne).other _ _ hne).other _ _ hne).other _ _ hne).other _ _ hne).other _ _ hne).other _ _ hne).other _ _ hne
        · rw [hW]
          exact ob_transC HR.out.g (ob_putC _ _ _ _)
      go_wp2
      go_roundw
      case rel => exact ⟨k + 1, by omega, by go_num, HN.out _ rfl⟩
      case measure => simp [intOf]; omega
    · obtain rfl : m = k := by omega
      go_wp2
      go_end0
      exact ⟨rfl, HR.out.s, HR.out.g⟩

end Go.Proofs.YtapachlhdgehjaaGreatDoor

/-
  Package cells: tint, written: a colour laid over cells, a rune's cell upon what was there.
-/
namespace Go.Proofs.YtapachlhdgehjaaGreatDoor
open Go.RowKit

def WfC (L : List Ce) : Prop := ∀ c ∈ L, c.c.ok ∧ c.b.ok
def tinC (a : Co) (_ : Nat) (c : Ce) : Ce := ⟨c.r, overC a c.c, overC a c.b, c.wd, c.tl⟩
structure TiP (w : World) (lo g n cap o bi : Nat) (L : List Ce) (a : Co) (k : Nat) (wr : World) : Prop where
  s : ScM lo wr g n cap (updR L o k (tinC a))
  b : Bk wr bi #[.int .u8 a.r, .int .u8 a.g, .int .u8 a.b, .int .u8 a.a] 38
  g : w.grownBy wr (some g)
theorem Bk.at4C {W : World} {b : Nat} {c : Co} {t : TypeId} (h : Bk W b #[.int .u8 c.r, .int .u8 c.g, .int .u8 c.b, .int .u8 c.a] t) : AtC W b c := ⟨by rw [h.cell]; rfl, by rw [h.cell]; rfl, by rw [h.cell]; rfl, by rw [h.cell]; rfl⟩
theorem CeAt.col {w : World} {g p : Nat} {c : Ce} (h : CeAt w g p c) : w.cell? ⟨g, p + 1, none⟩ = some (.int .u8 c.c.r) ∧ w.cell? ⟨g, p + 2, none⟩ = some (.int .u8 c.c.g) ∧ w.cell? ⟨g, p + 3, none⟩ = some (.int .u8 c.c.b) ∧ w.cell? ⟨g, p + 4, none⟩ = some (.int .u8 c.c.a) := ⟨h.2.1, h.2.2.1, h.2.2.2.1, h.2.2.2.2.1⟩
theorem CeAt.bak {w : World} {g p : Nat} {c : Ce} (h : CeAt w g p c) : w.cell? ⟨g, p + 5, none⟩ = some (.int .u8 c.b.r) ∧ w.cell? ⟨g, p + 6, none⟩ = some (.int .u8 c.b.g) ∧ w.cell? ⟨g, p + 7, none⟩ = some (.int .u8 c.b.b) ∧ w.cell? ⟨g, p + 8, none⟩ = some (.int .u8 c.b.a) := ⟨h.2.2.2.2.2.1, h.2.2.2.2.2.2.1, h.2.2.2.2.2.2.2.1, h.2.2.2.2.2.2.2.2.1⟩

set_option maxRecDepth 10000 in
set_option maxHeartbeats 4000000 in
theorem tint_any (lo g n cap o m c' B : Nat) (L : List Ce) (a : Co) (w : World) (h : ScM lo w g n cap L) (hm : o + m ≤ n) (hB : B = o * 11) (hl : n ≤ 1000000) (ha : a.ok) (hL : WfC L) :
    Calls Tryz.prog 93 #[.slice (some ⟨g, B, none⟩) m c', (Value.agg #[.int .u8 a.r, .int .u8 a.g, .int .u8 a.b, .int .u8 a.a])] w fun e w' => e = .returned (.tuple #[]) ∧ ScM lo w' g n cap (updR L o m (tinC a)) ∧ w.grownBy w' (some g) := by
  have HI : Hid (TiP w lo g n cap o w.heap.size L a 0 (w.alloc (.cells #[.int .u8 a.r, .int .u8 a.g, .int .u8 a.b, .int .u8 a.a] 38))) := by
    have h1 : Below w.heap.size w (w.alloc (.cells #[.int .u8 a.r, .int .u8 a.g, .int .u8 a.b, .int .u8 a.a] 38)) := (Below.refl _ w).alloc (Nat.le_refl _) _
    exact ⟨by rw [updR_zero]; exact h.below h1, Bk.new _ _ _, ⟨h1.os, h1.tape, h1.output, h1.size, fun b hb _ => h1.block b hb⟩⟩
  have HL : Hid (L.length = n ∧ B = o * 11 ∧ a.ok ∧ WfC L) := ⟨h.1, hB, ha, hL⟩
  obtain ⟨bi, hbi⟩ : ∃ bi, bi = w.heap.size := ⟨_, rfl⟩
  have hne : g ≠ bi := by have := h.lt.2; omega
  rw [← hbi] at HI
  clear h hB ha hL
  go_enter Tryz.func93, Tryz.ntmps93
  go_wp2_with fail
  rw [← hbi]
  clear hbi
  go_loopw [8] (fun i wr => ∃ k : Nat, k ≤ m ∧ i = .int .i64 k ∧ Hid (TiP w lo g n cap o bi L a k wr)) (fun i _ => m - (intOf i).toNat)
  case atStart => exact ⟨0, Nat.zero_le _, rfl, HI⟩
  case round =>
    obtain ⟨k, hk, rfl, HR⟩ := hrel
    clear HI
    by_cases hlt : k < m
    · have ik : (k : Int) < m := by omega
      obtain ⟨l1, l2, l3, l4⟩ := HL.out
      have hkl : o + k < (updR L o k (tinC a)).length := by rw [updR_len]; omega
      obtain ⟨z, hz⟩ : ∃ z, z = L[o + k]'(by omega) := ⟨_, rfl⟩
      have hz2 : (updR L o k (tinC a))[o + k] = z := by rw [updR_own, hz]
      have hat := HR.out.s.look (o + k) hkl (B + k * 11) (by omega)
      rw [hz2] at hat
      obtain ⟨e0, e1, e2, e3, e4, e5, e6, e7, e8, e9, e10⟩ := id hat
      obtain ⟨d0, d1, d2, d3⟩ := HR.out.b.at4C
      have hwz := l4 z (by rw [hz]; exact List.getElem_mem _)
      have HO1 : Hid (∀ W, Calls Tryz.prog 96 #[(Value.agg #[.int .u8 a.r, .int .u8 a.g, .int .u8 a.b, .int .u8 a.a]), (Value.agg #[.int .u8 z.c.r, .int .u8 z.c.g, .int .u8 z.c.b, .int .u8 z.c.a])] W fun e w' => e = .returned (Value.agg #[.int .u8 (overC a z.c).r, .int .u8 (overC a z.c).g, .int .u8 (overC a z.c).b, .int .u8 (overC a z.c).a]) ∧ Below W.heap.size W w') := fun W => overK_any a z.c W l3 hwz.1
      have HO2 : Hid (∀ W, Calls Tryz.prog 96 #[(Value.agg #[.int .u8 a.r, .int .u8 a.g, .int .u8 a.b, .int .u8 a.a]), (Value.agg #[.int .u8 z.b.r, .int .u8 z.b.g, .int .u8 z.b.b, .int .u8 z.b.a])] W fun e w' => e = .returned (Value.agg #[.int .u8 (overC a z.b).r, .int .u8 (overC a z.b).g, .int .u8 (overC a z.b).b, .int .u8 (overC a z.b).a]) ∧ Below W.heap.size W w') := fun W => overK_any a z.b W l3 hwz.2
      have gl := HR.out.s.lt.2
      have bl := HR.out.b.lt
      have HZ : Hid (updR L o (k + 1) (tinC a) = (updR L o k (tinC a)).set (o + k) (tinC a (o + k) z)) := by
        have := updR_next L o k (tinC a) (by omega)
        rw [← hz] at this
        exact this.symm
      have HZ2 : Hid (∃ h : o + k < (updR L o k (tinC a)).length, (updR L o k (tinC a))[o + k] = z) := ⟨hkl, hz2⟩
      obtain ⟨bx, hbx⟩ : ∃ bx, bx = wr.heap.size := ⟨_, rfl⟩
      have H1 : Hid (∀ W, Below (wr.alloc (.cells (#[.int .i32 z.r, .int .u8 z.c.r, .int .u8 z.c.g, .int .u8 z.c.b, .int .u8 z.c.a, .int .u8 z.b.r, .int .u8 z.b.g, .int .u8 z.b.b, .int .u8 z.b.a, .bool z.wd, .bool z.tl]) 65)).heap.size (wr.alloc (.cells (#[.int .i32 z.r, .int .u8 z.c.r, .int .u8 z.c.g, .int .u8 z.c.b, .int .u8 z.c.a, .int .u8 z.b.r, .int .u8 z.b.g, .int .u8 z.b.b, .int .u8 z.b.a, .bool z.wd, .bool z.tl]) 65)) W → TiP w lo g n cap o bi L a k W ∧ Bk W bx (#[.int .i32 z.r, .int .u8 z.c.r, .int .u8 z.c.g, .int .u8 z.c.b, .int .u8 z.c.a, .int .u8 z.b.r, .int .u8 z.b.g, .int .u8 z.b.b, .int .u8 z.b.a, .bool z.wd, .bool z.tl]) 65) := fun W hW => by
        have h1 : Below wr.heap.size wr (wr.alloc (.cells (#[.int .i32 z.r, .int .u8 z.c.r, .int .u8 z.c.g, .int .u8 z.c.b, .int .u8 z.c.a, .int .u8 z.b.r, .int .u8 z.b.g, .int .u8 z.b.b, .int .u8 z.b.a, .bool z.wd, .bool z.tl]) 65)) := (Below.refl _ wr).alloc (Nat.le_refl _) _
        have h2 : Below wr.heap.size wr W := h1.trans (hW.mono h1.size)
        exact ⟨⟨HR.out.s.below h2, HR.out.b.below h2, ob_transC HR.out.g ⟨h2.os, h2.tape, h2.output, h2.size, fun b hb _ => h2.block b hb⟩⟩, by rw [hbx]; exact (Bk.new _ _ _).below hW⟩
      have hnx : g ≠ bx := by omega
      clear hat hwz hz hz2 hkl l1 l2 l3 l4
      go_wp2_with fail
      refine (HO1.out _).mono ?_
      rintro e w1 ⟨rfl, hb⟩
      rw [← hbx]
      clear hbx
      obtain ⟨q1, q2⟩ := H1.out _ hb
      have HQ : Hid (TiP w lo g n cap o bi L a k w1 ∧ Bk w1 bx (#[.int .i32 z.r, .int .u8 z.c.r, .int .u8 z.c.g, .int .u8 z.c.b, .int .u8 z.c.a, .int .u8 z.b.r, .int .u8 z.b.g, .int .u8 z.b.b, .int .u8 z.b.a, .bool z.wd, .bool z.tl]) 65) := ⟨q1, q2⟩
      obtain ⟨c1, c2⟩ := HZ2.out
      have hat := q1.s.look (o + k) c1 (B + k * 11) (by have := HL.out.2.1; omega)
      rw [c2] at hat
      obtain ⟨g1, g2, g3, g4⟩ := hat.col
      have ff := q1.s.frozen
      have f1 := ff (B + k * 11 + 1)
      have f2 := ff (B + k * 11 + 2)
      have f3 := ff (B + k * 11 + 3)
      have f4 := ff (B + k * 11 + 4)
      have H2 : Hid (∀ W, W = (((w1.setCell ⟨g, B + k * 11 + 1, none⟩ (.int .u8 (overC a z.c).r)).setCell ⟨g, B + k * 11 + 2, none⟩ (.int .u8 (overC a z.c).g)).setCell ⟨g, B + k * 11 + 3, none⟩ (.int .u8 (overC a z.c).b)).setCell ⟨g, B + k * 11 + 4, none⟩ (.int .u8 (overC a z.c).a) → ScM lo W g n cap ((updR L o k (tinC a)).set (o + k) ⟨z.r, overC a z.c, z.b, z.wd, z.tl⟩) ∧ Bk W bi #[.int .u8 a.r, .int .u8 a.g, .int .u8 a.b, .int .u8 a.a] 38 ∧ Bk W bx (#[.int .i32 z.r, .int .u8 z.c.r, .int .u8 z.c.g, .int .u8 z.c.b, .int .u8 z.c.a, .int .u8 z.b.r, .int .u8 z.b.g, .int .u8 z.b.b, .int .u8 z.b.a, .bool z.wd, .bool z.tl]) 65 ∧ w.grownBy W (some g)) := fun W hW => by
        have s1 := HQ.out.1.s.fore (o + k) c1 (B + k * 11) (by have := HL.out.2.1; omega) ⟨0, overC a z.c, z.b, false, false⟩
        rw [c2] at s1
        rw [hW]
        exact ⟨s1, (((HQ.out.1.b.other _ _ hne).other _ _ hne).other _ _ hne).other _ _ hne, (((HQ.out.2.other _ _ hnx).other _ _ hnx).other _ _ hnx).other _ _ hnx, ob_transC HQ.out.1.g (ob_foreC _ _ _ ⟨0, overC a z.c, z.b, false, false⟩)⟩
      have hbx1 : bx < w1.heap.size := q2.lt
      have hbi1 : bi < w1.heap.size := q1.b.lt
      clear hb q1 q2 c2 hat ff H1 d0 d1 d2 d3 e0 e1 e2 e3 e4 e5 e6 e7 e8 e9 e10
      obtain ⟨W2, hW2⟩ : ∃ W2, W2 = (((w1.setCell ⟨g, B + k * 11 + 1, none⟩ (.int .u8 (overC a z.c).r)).setCell ⟨g, B + k * 11 + 2, none⟩ (.int .u8 (overC a z.c).g)).setCell ⟨g, B + k * 11 + 3, none⟩ (.int .u8 (overC a z.c).b)).setCell ⟨g, B + k * 11 + 4, none⟩ (.int .u8 (overC a z.c).a) := ⟨_, rfl⟩
      have HW2 : Hid (ScM lo W2 g n cap ((updR L o k (tinC a)).set (o + k) ⟨z.r, overC a z.c, z.b, z.wd, z.tl⟩) ∧ Bk W2 bi #[.int .u8 a.r, .int .u8 a.g, .int .u8 a.b, .int .u8 a.a] 38 ∧ Bk W2 bx (#[.int .i32 z.r, .int .u8 z.c.r, .int .u8 z.c.g, .int .u8 z.c.b, .int .u8 z.c.a, .int .u8 z.b.r, .int .u8 z.b.g, .int .u8 z.b.b, .int .u8 z.b.a, .bool z.wd, .bool z.tl]) 65 ∧ w.grownBy W2 (some g)) := H2.out _ hW2
      obtain ⟨d0, d1, d2, d3⟩ := HQ.out.1.b.at4C
      obtain ⟨x5, x6, x7, x8⟩ := (HQ.out.2.at11).bak
      simp only [Nat.zero_add] at x5 x6 x7 x8
      clear H2
      go_wp2_with fail
      rw [← hW2]
      clear hW2 g1 g2 g3 g4 f1 f2 f3 f4 d0 d1 d2 d3 x5 x6 x7 x8 hbx1 hbi1
      refine (HO2.out _).mono ?_
      rintro e w3 ⟨rfl, hb⟩
      have H3 : Hid (ScM lo w3 g n cap ((updR L o k (tinC a)).set (o + k) ⟨z.r, overC a z.c, z.b, z.wd, z.tl⟩) ∧ Bk w3 bi #[.int .u8 a.r, .int .u8 a.g, .int .u8 a.b, .int .u8 a.a] 38 ∧ w.grownBy w3 (some g)) := ⟨HW2.out.1.below hb, HW2.out.2.1.below hb, ob_transC HW2.out.2.2.2 ⟨hb.os, hb.tape, hb.output, hb.size, fun b h _ => hb.block b h⟩⟩
      have c3 : o + k < ((updR L o k (tinC a)).set (o + k) (⟨z.r, overC a z.c, z.b, z.wd, z.tl⟩ : Ce)).length := by rw [List.length_set]; exact c1
      obtain ⟨g5, g6, g7, g8⟩ := (H3.out.1.look (o + k) c3 (B + k * 11) (by have := HL.out.2.1; omega)).bak
      simp only [List.getElem_set_self] at g5 g6 g7 g8
      have ff := H3.out.1.frozen
      have f5 := ff (B + k * 11 + 5)
      have f6 := ff (B + k * 11 + 6)
      have f7 := ff (B + k * 11 + 7)
      have f8 := ff (B + k * 11 + 8)
      have HN : Hid (∀ W, W = (((w3.setCell ⟨g, B + k * 11 + 5, none⟩ (.int .u8 (overC a z.b).r)).setCell ⟨g, B + k * 11 + 6, none⟩ (.int .u8 (overC a z.b).g)).setCell ⟨g, B + k * 11 + 7, none⟩ (.int .u8 (overC a z.b).b)).setCell ⟨g, B + k * 11 + 8, none⟩ (.int .u8 (overC a z.b).a) → TiP w lo g n cap o bi L a (k + 1) W) := fun W hW => by
        have s1 := H3.out.1.back (o + k) c3 (B + k * 11) (by have := HL.out.2.1; omega) ⟨0, coZ, overC a z.b, false, false⟩
        simp only [List.getElem_set_self, List.set_set] at s1
        rw [hW]
        refine ⟨?_, (((H3.out.2.1.other _ _ hne).other _ _ hne).other _ _ hne).other _ _ hne, ob_transC H3.out.2.2 (ob_backC _ _ _ ⟨0, coZ, overC a z.b, false, false⟩)⟩
        rw [HZ.out]
        exact s1
      clear hb ff HW2 HQ HR HZ H3 HO1 HO2 c3 c1 HZ2
      go_wp2
      go_roundw
      case rel => exact ⟨k + 1, by omega, by go_num, HN.out _ rfl⟩
      case measure => simp [intOf]; omega
    · obtain rfl : m = k := by omega
      go_wp2
      go_end0
      exact ⟨rfl, HR.out.s, HR.out.g⟩

end Go.Proofs.YtapachlhdgehjaaGreatDoor

/-
  Package cells: shape (the cells of a rune), written (a rune's cell upon what was there).
-/
namespace Go.Proofs.YtapachlhdgehjaaGreatDoor
open Go.RowKit

theorem Bk.put11 {W : World} {b : Nat} {a0 a1 a2 a3 a4 a5 a6 a7 a8 a9 a10 v0 v1 v2 v3 v4 v5 v6 v7 v8 v9 v10 : Value} {t : TypeId} (h : Bk W b #[a0, a1, a2, a3, a4, a5, a6, a7, a8, a9, a10] t) : Bk ((((((((((((W).setCell ⟨b, 0, none⟩ (v0)).setCell ⟨b, 1, none⟩ (v1)).setCell ⟨b, 2, none⟩ (v2)).setCell ⟨b, 3, none⟩ (v3)).setCell ⟨b, 4, none⟩ (v4)).setCell ⟨b, 5, none⟩ (v5)).setCell ⟨b, 6, none⟩ (v6)).setCell ⟨b, 7, none⟩ (v7)).setCell ⟨b, 8, none⟩ (v8)).setCell ⟨b, 9, none⟩ (v9)).setCell ⟨b, 10, none⟩ (v10)) b #[v0, v1, v2, v3, v4, v5, v6, v7, v8, v9, v10] t := by
  have h0 : Bk ((W).setCell ⟨b, 0, none⟩ v0) b #[v0, a1, a2, a3, a4, a5, a6, a7, a8, a9, a10] t := h.put 0 v0
  have h1 : Bk (((W).setCell ⟨b, 0, none⟩ v0).setCell ⟨b, 1, none⟩ v1) b #[v0, v1, a2, a3, a4, a5, a6, a7, a8, a9, a10] t := h0.put 1 v1
  have h2 : Bk ((((W).setCell ⟨b, 0, none⟩ v0).setCell ⟨b, 1, none⟩ v1).setCell ⟨b, 2, none⟩ v2) b #[v0, v1, v2, a3, a4, a5, a6, a7, a8, a9, a10] t := h1.put 2 v2
  have h3 : Bk (((((W).setCell ⟨b, 0, none⟩ v0).setCell ⟨b, 1, none⟩ v1).setCell ⟨b, 2, none⟩ v2).setCell ⟨b, 3, none⟩ v3) b #[v0, v1, v2, v3, a4, a5, a6, a7, a8, a9, a10] t := h2.put 3 v3
  have h4 : Bk ((((((W).setCell ⟨b, 0, none⟩ v0).setCell ⟨b, 1, none⟩ v1).setCell ⟨b, 2, none⟩ v2).setCell ⟨b, 3, none⟩ v3).setCell ⟨b, 4, none⟩ v4) b #[v0, v1, v2, v3, v4, a5, a6, a7, a8, a9, a10] t := h3.put 4 v4
  have h5 : Bk (((((((W).setCell ⟨b, 0, none⟩ v0).setCell ⟨b, 1, none⟩ v1).setCell ⟨b, 2, none⟩ v2).setCell ⟨b, 3, none⟩ v3).setCell ⟨b, 4, none⟩ v4).setCell ⟨b, 5, none⟩ v5) b #[v0, v1, v2, v3, v4, v5, a6, a7, a8, a9, a10] t := h4.put 5 v5
  have h6 : Bk ((((((((W).setCell ⟨b, 0, none⟩ v0).setCell ⟨b, 1, none⟩ v1).setCell ⟨b, 2, none⟩ v2).setCell ⟨b, 3, none⟩ v3).setCell ⟨b, 4, none⟩ v4).setCell ⟨b, 5, none⟩ v5).setCell ⟨b, 6, none⟩ v6) b #[v0, v1, v2, v3, v4, v5, v6, a7, a8, a9, a10] t := h5.put 6 v6
  have h7 : Bk (((((((((W).setCell ⟨b, 0, none⟩ v0).setCell ⟨b, 1, none⟩ v1).setCell ⟨b, 2, none⟩ v2).setCell ⟨b, 3, none⟩ v3).setCell ⟨b, 4, none⟩ v4).setCell ⟨b, 5, none⟩ v5).setCell ⟨b, 6, none⟩ v6).setCell ⟨b, 7, none⟩ v7) b #[v0, v1, v2, v3, v4, v5, v6, v7, a8, a9, a10] t := h6.put 7 v7
  have h8 : Bk ((((((((((W).setCell ⟨b, 0, none⟩ v0).setCell ⟨b, 1, none⟩ v1).setCell ⟨b, 2, none⟩ v2).setCell ⟨b, 3, none⟩ v3).setCell ⟨b, 4, none⟩ v4).setCell ⟨b, 5, none⟩ v5).setCell ⟨b, 6, none⟩ v6).setCell ⟨b, 7, none⟩ v7).setCell ⟨b, 8, none⟩ v8) b #[v0, v1, v2, v3, v4, v5, v6, v7, v8, a9, a10] t := h7.put 8 v8
  have h9 : Bk (((((((((((W).setCell ⟨b, 0, none⟩ v0).setCell ⟨b, 1, none⟩ v1).setCell ⟨b, 2, none⟩ v2).setCell ⟨b, 3, none⟩ v3).setCell ⟨b, 4, none⟩ v4).setCell ⟨b, 5, none⟩ v5).setCell ⟨b, 6, none⟩ v6).setCell ⟨b, 7, none⟩ v7).setCell ⟨b, 8, none⟩ v8).setCell ⟨b, 9, none⟩ v9) b #[v0, v1, v2, v3, v4, v5, v6, v7, v8, v9, a10] t := h8.put 9 v9
  have h10 : Bk ((((((((((((W).setCell ⟨b, 0, none⟩ v0).setCell ⟨b, 1, none⟩ v1).setCell ⟨b, 2, none⟩ v2).setCell ⟨b, 3, none⟩ v3).setCell ⟨b, 4, none⟩ v4).setCell ⟨b, 5, none⟩ v5).setCell ⟨b, 6, none⟩ v6).setCell ⟨b, 7, none⟩ v7).setCell ⟨b, 8, none⟩ v8).setCell ⟨b, 9, none⟩ v9).setCell ⟨b, 10, none⟩ v10) b #[v0, v1, v2, v3, v4, v5, v6, v7, v8, v9, v10] t := h9.put 10 v10
  exact h10
theorem below11 {B : Nat} {w W : World} {b : Nat} {v0 v1 v2 v3 v4 v5 v6 v7 v8 v9 v10 : Value} (h : Below B w W) (hb : B ≤ b) : Below B w ((((((((((((W).setCell ⟨b, 0, none⟩ (v0)).setCell ⟨b, 1, none⟩ (v1)).setCell ⟨b, 2, none⟩ (v2)).setCell ⟨b, 3, none⟩ (v3)).setCell ⟨b, 4, none⟩ (v4)).setCell ⟨b, 5, none⟩ (v5)).setCell ⟨b, 6, none⟩ (v6)).setCell ⟨b, 7, none⟩ (v7)).setCell ⟨b, 8, none⟩ (v8)).setCell ⟨b, 9, none⟩ (v9)).setCell ⟨b, 10, none⟩ (v10)) :=
  (((((((((((h).setCell (p := ⟨b, 0, none⟩) hb _).setCell (p := ⟨b, 1, none⟩) hb _).setCell (p := ⟨b, 2, none⟩) hb _).setCell (p := ⟨b, 3, none⟩) hb _).setCell (p := ⟨b, 4, none⟩) hb _).setCell (p := ⟨b, 5, none⟩) hb _).setCell (p := ⟨b, 6, none⟩) hb _).setCell (p := ⟨b, 7, none⟩) hb _).setCell (p := ⟨b, 8, none⟩) hb _).setCell (p := ⟨b, 9, none⟩) hb _).setCell (p := ⟨b, 10, none⟩) hb _
theorem below11c {B : Nat} {w W : World} {b : Nat} {v1 v2 v3 v4 : Value} (h : Below B w W) (hb : B ≤ b) : Below B w (((((W).setCell ⟨b, 1, none⟩ (v1)).setCell ⟨b, 2, none⟩ (v2)).setCell ⟨b, 3, none⟩ (v3)).setCell ⟨b, 4, none⟩ (v4)) :=
  ((((h).setCell (p := ⟨b, 1, none⟩) hb _).setCell (p := ⟨b, 2, none⟩) hb _).setCell (p := ⟨b, 3, none⟩) hb _).setCell (p := ⟨b, 4, none⟩) hb _
theorem Bk.put11b {W : World} {b : Nat} {a0 a1 a2 a3 a4 a5 a6 a7 a8 a9 a10 v5 v6 v7 v8 : Value} {t : TypeId} (h : Bk W b #[a0, a1, a2, a3, a4, a5, a6, a7, a8, a9, a10] t) : Bk (((((W).setCell ⟨b, 5, none⟩ (v5)).setCell ⟨b, 6, none⟩ (v6)).setCell ⟨b, 7, none⟩ (v7)).setCell ⟨b, 8, none⟩ (v8)) b #[a0, a1, a2, a3, a4, v5, v6, v7, v8, a9, a10] t := by
  have h5 : Bk ((W).setCell ⟨b, 5, none⟩ v5) b #[a0, a1, a2, a3, a4, v5, a6, a7, a8, a9, a10] t := h.put 5 v5
  have h6 : Bk (((W).setCell ⟨b, 5, none⟩ v5).setCell ⟨b, 6, none⟩ v6) b #[a0, a1, a2, a3, a4, v5, v6, a7, a8, a9, a10] t := h5.put 6 v6
  have h7 : Bk ((((W).setCell ⟨b, 5, none⟩ v5).setCell ⟨b, 6, none⟩ v6).setCell ⟨b, 7, none⟩ v7) b #[a0, a1, a2, a3, a4, v5, v6, v7, a8, a9, a10] t := h6.put 7 v7
  have h8 : Bk (((((W).setCell ⟨b, 5, none⟩ v5).setCell ⟨b, 6, none⟩ v6).setCell ⟨b, 7, none⟩ v7).setCell ⟨b, 8, none⟩ v8) b #[a0, a1, a2, a3, a4, v5, v6, v7, v8, a9, a10] t := h7.put 8 v8
  exact h8
theorem below11b {B : Nat} {w W : World} {b : Nat} {v5 v6 v7 v8 : Value} (h : Below B w W) (hb : B ≤ b) : Below B w (((((W).setCell ⟨b, 5, none⟩ (v5)).setCell ⟨b, 6, none⟩ (v6)).setCell ⟨b, 7, none⟩ (v7)).setCell ⟨b, 8, none⟩ (v8)) :=
  ((((h).setCell (p := ⟨b, 5, none⟩) hb _).setCell (p := ⟨b, 6, none⟩) hb _).setCell (p := ⟨b, 7, none⟩) hb _).setCell (p := ⟨b, 8, none⟩) hb _

def shp1 (r : Int) : Ce := if width r = 2 then ⟨r, coZ, coZ, true, false⟩ else ⟨r, coZ, coZ, false, false⟩
def shp2 (r : Int) : Ce := if width r = 2 then ⟨r, coZ, coZ, false, true⟩ else ⟨0, coZ, coZ, false, false⟩
abbrev duoA (c d : Ce) : Array Value := #[.int .i32 c.r, .int .u8 c.c.r, .int .u8 c.c.g, .int .u8 c.c.b, .int .u8 c.c.a, .int .u8 c.b.r, .int .u8 c.b.g, .int .u8 c.b.b, .int .u8 c.b.a, .bool c.wd, .bool c.tl, .int .i32 d.r, .int .u8 d.c.r, .int .u8 d.c.g, .int .u8 d.c.b, .int .u8 d.c.a, .int .u8 d.b.r, .int .u8 d.b.g, .int .u8 d.b.b, .int .u8 d.b.a, .bool d.wd, .bool d.tl]

theorem duo_size : (Tryz.prog.info? 211).map (·.size) = some 22 := by kernel_rfl

set_option maxRecDepth 20000 in
set_option maxHeartbeats 4000000 in
theorem shape_any (r : Int) (w : World) (T : Tabs w) : Calls Tryz.prog 131 #[.int .i32 r] w fun e w' => e = .returned (.tuple #[.agg (duoA (shp1 r) (shp2 r)), .int .i64 (width r)]) ∧ Below w.heap.size w w' := by
  have HT : Hid (∀ W, Below w.heap.size w W → Tabs W) := fun W h => T.below h
  have HL : Hid (∀ c, Below w.heap.size w (w.alloc c)) := fun c => (Below.refl _ w).alloc (Nat.le_refl _) _
  have hS1 : Hid (shp1 r = if width r = 2 then ⟨r, coZ, coZ, true, false⟩ else ⟨r, coZ, coZ, false, false⟩) := rfl
  have hS2 : Hid (shp2 r = if width r = 2 then ⟨r, coZ, coZ, false, true⟩ else ⟨0, coZ, coZ, false, false⟩) := rfl
  obtain ⟨c1, hc1⟩ : ∃ c, c = shp1 r := ⟨_, rfl⟩
  obtain ⟨c2, hc2⟩ : ∃ c, c = shp2 r := ⟨_, rfl⟩
  rw [← hc1] at hS1 ⊢
  rw [← hc2] at hS2 ⊢
  obtain ⟨n, hn⟩ : ∃ n, n = width r := ⟨_, rfl⟩
  rw [← hn] at hS1 hS2 ⊢
  clear T hc1 hc2
  go_enter Tryz.func131, Tryz.ntmps131
  go_wp2_with fail
  refine (width_any _ _ (HT.out _ (HL.out _))).mono ?_
  rintro e w2 ⟨rfl, hb⟩
  rw [← hn]
  clear hn
  have B2 : Bk w2 w.heap.size #[.int .i32 0, .int .u8 0, .int .u8 0, .int .u8 0, .int .u8 0, .int .u8 0, .int .u8 0, .int .u8 0, .int .u8 0, .bool false, .bool false, .int .i32 0, .int .u8 0, .int .u8 0, .int .u8 0, .int .u8 0, .int .u8 0, .int .u8 0, .int .u8 0, .int .u8 0, .bool false, .bool false] 211 := (Bk.new w _ _).below hb
  have H2 : Hid (Below w.heap.size w w2) := (HL.out _).trans (hb.mono (HL.out _).size)
  have HB2 : Hid (Bk w2 w.heap.size #[.int .i32 0, .int .u8 0, .int .u8 0, .int .u8 0, .int .u8 0, .int .u8 0, .int .u8 0, .int .u8 0, .int .u8 0, .bool false, .bool false, .int .i32 0, .int .u8 0, .int .u8 0, .int .u8 0, .int .u8 0, .int .u8 0, .int .u8 0, .int .u8 0, .int .u8 0, .bool false, .bool false] 211) := B2
  clear hb HT HL B2
  obtain ⟨b, hb⟩ : ∃ b, b = w.heap.size := ⟨_, rfl⟩
  rw [← hb] at HB2 ⊢
  have HBb : Hid (w.heap.size ≤ b) := by rw [hb]; exact Nat.le_refl _
  clear hb
  by_cases h2 : n = 2
  · subst h2
    rw [if_pos rfl] at hS1 hS2
    go_wp2_with (refine wpList_store_row rfl 211 (.tmp 2) (.tmp 13) rfl b #[.int .i32 r, .int .u8 0, .int .u8 0, .int .u8 0, .int .u8 0, .int .u8 0, .int .u8 0, .int .u8 0, .int .u8 0, .bool true, .bool false, .int .i32 r, .int .u8 0, .int .u8 0, .int .u8 0, .int .u8 0, .int .u8 0, .int .u8 0, .int .u8 0, .int .u8 0, .bool false, .bool true] rfl rfl 211 _ HB2.out duo_size rfl (by simp [Value.oneCell']) ?_)
    obtain ⟨W3, hW3⟩ : ∃ W3, W3 = w2.setRow b #[.int .i32 r, .int .u8 0, .int .u8 0, .int .u8 0, .int .u8 0, .int .u8 0, .int .u8 0, .int .u8 0, .int .u8 0, .bool true, .bool false, .int .i32 r, .int .u8 0, .int .u8 0, .int .u8 0, .int .u8 0, .int .u8 0, .int .u8 0, .int .u8 0, .int .u8 0, .bool false, .bool true] := ⟨_, rfl⟩
    have H3 : Hid (Bk W3 b #[.int .i32 r, .int .u8 0, .int .u8 0, .int .u8 0, .int .u8 0, .int .u8 0, .int .u8 0, .int .u8 0, .int .u8 0, .bool true, .bool false, .int .i32 r, .int .u8 0, .int .u8 0, .int .u8 0, .int .u8 0, .int .u8 0, .int .u8 0, .int .u8 0, .int .u8 0, .bool false, .bool true] 211 ∧ Below w.heap.size w W3) := by rw [hW3]; exact ⟨setRow_heap w2 b _ _ 211 _ HB2.out, below_setRow H2.out HBb.out _⟩
    rw [← hW3]
    clear hW3
    have hld : (loadVar 211 ⟨b, 0, none⟩).run Tryz.prog W3 = .ok (.agg #[.int .i32 r, .int .u8 0, .int .u8 0, .int .u8 0, .int .u8 0, .int .u8 0, .int .u8 0, .int .u8 0, .int .u8 0, .bool true, .bool false, .int .i32 r, .int .u8 0, .int .u8 0, .int .u8 0, .int .u8 0, .int .u8 0, .int .u8 0, .int .u8 0, .int .u8 0, .bool false, .bool true]) W3 := run_loadVar_row W3 b 211 211 _ _ _ H3.out.1 Tryz.underlying211 rfl duo_size
    refine bodyPost_ret (v := .tuple #[.agg #[.int .i32 r, .int .u8 0, .int .u8 0, .int .u8 0, .int .u8 0, .int .u8 0, .int .u8 0, .int .u8 0, .int .u8 0, .bool true, .bool false, .int .i32 r, .int .u8 0, .int .u8 0, .int .u8 0, .int .u8 0, .int .u8 0, .int .u8 0, .int .u8 0, .int .u8 0, .bool false, .bool true], .int .i64 2]) ?_ rfl ⟨by rw [hS1.out, hS2.out]; rfl, H3.out.2⟩
    simp [results, Tryz.results131, asAddr, hld]
  · rw [if_neg h2] at hS1 hS2
    go_wp2_with (refine wpList_store_row rfl 211 (.tmp 2) (.tmp 17) rfl b #[.int .i32 r, .int .u8 0, .int .u8 0, .int .u8 0, .int .u8 0, .int .u8 0, .int .u8 0, .int .u8 0, .int .u8 0, .bool false, .bool false, .int .i32 0, .int .u8 0, .int .u8 0, .int .u8 0, .int .u8 0, .int .u8 0, .int .u8 0, .int .u8 0, .int .u8 0, .bool false, .bool false] rfl rfl 211 _ HB2.out duo_size rfl (by simp [Value.oneCell']) ?_)
    obtain ⟨W3, hW3⟩ : ∃ W3, W3 = w2.setRow b #[.int .i32 r, .int .u8 0, .int .u8 0, .int .u8 0, .int .u8 0, .int .u8 0, .int .u8 0, .int .u8 0, .int .u8 0, .bool false, .bool false, .int .i32 0, .int .u8 0, .int .u8 0, .int .u8 0, .int .u8 0, .int .u8 0, .int .u8 0, .int .u8 0, .int .u8 0, .bool false, .bool false] := ⟨_, rfl⟩
    have H3 : Hid (Bk W3 b #[.int .i32 r, .int .u8 0, .int .u8 0, .int .u8 0, .int .u8 0, .int .u8 0, .int .u8 0, .int .u8 0, .int .u8 0, .bool false, .bool false, .int .i32 0, .int .u8 0, .int .u8 0, .int .u8 0, .int .u8 0, .int .u8 0, .int .u8 0, .int .u8 0, .int .u8 0, .bool false, .bool false] 211 ∧ Below w.heap.size w W3) := by rw [hW3]; exact ⟨setRow_heap w2 b _ _ 211 _ HB2.out, below_setRow H2.out HBb.out _⟩
    rw [← hW3]
    clear hW3
    have hld : (loadVar 211 ⟨b, 0, none⟩).run Tryz.prog W3 = .ok (.agg #[.int .i32 r, .int .u8 0, .int .u8 0, .int .u8 0, .int .u8 0, .int .u8 0, .int .u8 0, .int .u8 0, .int .u8 0, .bool false, .bool false, .int .i32 0, .int .u8 0, .int .u8 0, .int .u8 0, .int .u8 0, .int .u8 0, .int .u8 0, .int .u8 0, .int .u8 0, .bool false, .bool false]) W3 := run_loadVar_row W3 b 211 211 _ _ _ H3.out.1 Tryz.underlying211 rfl duo_size
    refine bodyPost_ret (v := .tuple #[.agg #[.int .i32 r, .int .u8 0, .int .u8 0, .int .u8 0, .int .u8 0, .int .u8 0, .int .u8 0, .int .u8 0, .int .u8 0, .bool false, .bool false, .int .i32 0, .int .u8 0, .int .u8 0, .int .u8 0, .int .u8 0, .int .u8 0, .int .u8 0, .int .u8 0, .int .u8 0, .bool false, .bool false], .int .i64 n]) ?_ rfl ⟨by rw [hS1.out, hS2.out]; rfl, H3.out.2⟩
    simp [results, Tryz.results131, asAddr, hld]

end Go.Proofs.YtapachlhdgehjaaGreatDoor
