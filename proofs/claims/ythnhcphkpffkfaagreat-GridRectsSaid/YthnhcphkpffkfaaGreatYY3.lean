/-
  The statements' own alive.
-/
import Derived.Test.YthnhcphkpffkfaaGreatYZ
namespace Go.Proofs.YthnhcphkpffkfaaGreat
open Go.RowKit

theorem is_bk {w : World} {b : Nat} {xs : List Int} {t : TypeId} (h : Bk w b (flatI xs).toArray t) : IS w (.slice (some ⟨b, 0, none⟩) xs.length xs.length) xs :=
  ⟨_, xs.length, rfl, Nat.le_refl _, fun _ => ⟨b, 0, rfl, h.lt, fun i hi => by rw [Nat.zero_add, h.cell, List.getElem?_toArray]; exact flatI_at xs i hi⟩⟩
theorem ks_bk {α : Type} {k : Nat} {f : α → List Int} (he : Enc k f) {w : World} {b : Nat} {l : List α} {t : TypeId} (h : Bk w b (flatK f l).toArray t) : KS k f w (.slice (some ⟨b, 0, none⟩) l.length l.length) l :=
  ⟨_, l.length, rfl, Nat.le_refl _, fun _ => ⟨b, 0, rfl, h.lt, fun i hi j hj => by rw [Nat.zero_add, h.cell, List.getElem?_toArray]; exact flatK_at he l i hi j hj⟩⟩
def z3 : List Sz := [⟨3, 1⟩, ⟨5, 2⟩, ⟨9, 1⟩]
theorem al_c : ceL [1, 2, 1] 3 = [⟨0, 0, 1⟩, ⟨1, 0, 2⟩, ⟨0, 1, 1⟩] ∧ ceE [1, 2, 1] 3 = 0 := ⟨by kernel_rfl, by kernel_rfl⟩
theorem al_w : wiL [1, 1, 2] [3, 5, 9] 2 0 = [3, 6] ∧ wiE [1, 1, 2] [3, 5, 9] 2 0 = 0 := ⟨by kernel_rfl, by kernel_rfl⟩
theorem al_h : heL [1, 1, 2] [3, 5, 9] 2 = [5, 9] ∧ heE [1, 1, 2] [3, 5, 9] 2 = 0 := ⟨by kernel_rfl, by kernel_rfl⟩
theorem al_n : neZ [1, 1, 2] z3 2 1 = ⟨9, 4⟩ ∧ neE [1, 1, 2] z3 2 1 = 0 := ⟨by kernel_rfl, by kernel_rfl⟩
theorem al_r : rcL [1, 1, 2] z3 2 1 ⟨0, 0, 13, 6⟩ = [⟨0, 0, 5, 3⟩, ⟨6, 0, 7, 3⟩, ⟨0, 4, 13, 2⟩] ∧ rcE [1, 1, 2] z3 2 1 ⟨0, 0, 13, 6⟩ = 0 := ⟨by kernel_rfl, by kernel_rfl⟩
theorem al_e : wiL [1] [] 1 0 = [] ∧ wiE [1] [] 1 0 = 110 := ⟨by kernel_rfl, by kernel_rfl⟩

theorem i64_small {x : Int} (h : -1000000 ≤ x ∧ x ≤ 1000000) : I64 x := by unfold I64; omega
set_option maxRecDepth 10000 in
set_option maxHeartbeats 8000000 in
theorem alive_grid (w : World) : Calls Tryz.prog 4 #[] w fun e w' => e = .returned (.bool true) ∧ Below w.heap.size w w' := by
  have HC : Hid (∀ W v, IS W v [1, 2, 1] → Calls Tryz.prog 15 #[v, .int .i64 3] W fun e w' => ∃ u, e = .returned (.tuple #[u, .int .i64 0]) ∧ Hid (OwK 25 2 fP W.heap.size w' u [⟨0, 0, 1⟩, ⟨1, 0, 2⟩, ⟨0, 1, 1⟩] ∧ Below W.heap.size W w')) := fun W v h => by
    have := Cells_any [1, 2, 1] 3 v W h
    rwa [al_c.1, al_c.2] at this
  have HW : Hid (∀ W v u, IS W v [1, 1, 2] → IS W u [3, 5, 9] → Calls Tryz.prog 16 #[v, u, .int .i64 2, .int .i64 0] W fun e w' => ∃ u, e = .returned (.tuple #[u, .int .i64 0]) ∧ Hid (OwI W.heap.size w' u [3, 6] ∧ Below W.heap.size W w')) := fun W v u h1 h2 => by
    have := Widths_any [1, 1, 2] [3, 5, 9] 2 0 v u W h1 h2
    rwa [al_w.1, al_w.2] at this
  have HH : Hid (∀ W v u, IS W v [1, 1, 2] → IS W u [3, 5, 9] → Calls Tryz.prog 17 #[v, u, .int .i64 2] W fun e w' => ∃ u, e = .returned (.tuple #[u, .int .i64 0]) ∧ Hid (OwI W.heap.size w' u [5, 9] ∧ Below W.heap.size W w')) := fun W v u h1 h2 => by
    have := Heights_any [1, 1, 2] [3, 5, 9] 2 v u W h1 h2
    rwa [al_h.1, al_h.2] at this
  have HN : Hid (∀ W v u, IS W v [1, 1, 2] → KS 2 fZ W u z3 → Calls Tryz.prog 8 #[v, u, .int .i64 2, .int .i64 1] W fun e w' => e = .returned (.tuple #[.agg #[.int .i64 9, .int .i64 4], .int .i64 0]) ∧ Hid (Below W.heap.size W w')) := fun W v u h1 h2 => by
    have := Need_any [1, 1, 2] z3 2 1 v u W h1 h2
    rwa [al_n.1, al_n.2] at this
  have HR : Hid (∀ W v u, IS W v [1, 1, 2] → KS 2 fZ W u z3 → Calls Tryz.prog 9 #[v, u, .int .i64 2, .int .i64 1, .agg #[.int .i64 0, .int .i64 0, .int .i64 13, .int .i64 6]] W fun e w' => ∃ u, e = .returned (.tuple #[u, .int .i64 0]) ∧ Hid (OwK 29 4 fR W.heap.size w' u [⟨0, 0, 5, 3⟩, ⟨6, 0, 7, 3⟩, ⟨0, 4, 13, 2⟩] ∧ Below W.heap.size W w')) := fun W v u h1 h2 => by
    have := Rects_any [1, 1, 2] z3 2 1 ⟨0, 0, 13, 6⟩ v u W h1 h2 (i64_small (by decide)) (i64_small (by decide))
    rwa [al_r.1, al_r.2] at this
  have HW2 : Hid (∀ W v u, IS W v [1] → IS W u [] → Calls Tryz.prog 16 #[v, u, .int .i64 1, .int .i64 0] W fun e w' => ∃ u, e = .returned (.tuple #[u, .int .i64 110]) ∧ Hid (OwI W.heap.size w' u [] ∧ Below W.heap.size W w')) := fun W v u h1 h2 => by
    have := Widths_any [1] [] 1 0 v u W h1 h2
    rwa [al_e.1, al_e.2] at this
  go_enter Tryz.func4, Tryz.ntmps4
  go_wp2_with fail
  have B1 : Below w.heap.size w (w.alloc (.cells #[.int .i64 1, .int .i64 2, .int .i64 1] 3)) := (Below.refl _ _).alloc (Nat.le_refl _) _
  refine (HC.out _ _ (is_bk (xs := [1, 2, 1]) (Bk.new _ _ _))).mono ?_
  rintro e w1 ⟨cv, rfl, H1⟩
  have HB1 : Hid (Below w.heap.size w w1 ∧ KS 2 fP w1 cv [⟨0, 0, 1⟩, ⟨1, 0, 2⟩, ⟨0, 1, 1⟩]) := ⟨B1.trans (H1.out.2.mono B1.size), H1.out.1.ks encP⟩
  clear HC H1 B1
  go_wp2_with fail
  have B2 : Below w1.heap.size w1 ((w1.alloc (.cells #[.int .i64 1, .int .i64 1, .int .i64 2] 3)).alloc (.cells #[.int .i64 3, .int .i64 5, .int .i64 9] 3)) := ((Below.refl _ _).alloc (Nat.le_refl _) _).alloc (by simp) _
  refine (HW.out _ _ _ (is_bk (xs := [1, 1, 2]) (Bk.alloc (Bk.new _ _ _) _)) (is_bk (xs := [3, 5, 9]) (Bk.newB (by simp)))).mono ?_
  rintro e w2 ⟨wv, rfl, H2⟩
  have HB2 : Hid (Below w.heap.size w w2 ∧ KS 2 fP w2 cv [⟨0, 0, 1⟩, ⟨1, 0, 2⟩, ⟨0, 1, 1⟩] ∧ IS w2 wv [3, 6]) := by
    have b := B2.trans (H2.out.2.mono B2.size)
    exact ⟨HB1.out.1.trans (b.mono HB1.out.1.size), HB1.out.2.below b, H2.out.1.is⟩
  clear HW H2 B2 HB1
  go_wp2_with fail
  have B3 : Below w2.heap.size w2 ((w2.alloc (.cells #[.int .i64 1, .int .i64 1, .int .i64 2] 3)).alloc (.cells #[.int .i64 3, .int .i64 5, .int .i64 9] 3)) := ((Below.refl _ _).alloc (Nat.le_refl _) _).alloc (by simp) _
  refine (HH.out _ _ _ (is_bk (xs := [1, 1, 2]) (Bk.alloc (Bk.new _ _ _) _)) (is_bk (xs := [3, 5, 9]) (Bk.newB (by simp)))).mono ?_
  rintro e w3 ⟨hv, rfl, H3⟩
  have HB3 : Hid (Below w.heap.size w w3 ∧ KS 2 fP w3 cv [⟨0, 0, 1⟩, ⟨1, 0, 2⟩, ⟨0, 1, 1⟩] ∧ IS w3 wv [3, 6] ∧ IS w3 hv [5, 9]) := by
    have b := B3.trans (H3.out.2.mono B3.size)
    exact ⟨HB2.out.1.trans (b.mono HB2.out.1.size), HB2.out.2.1.below b, HB2.out.2.2.below b, H3.out.1.is⟩
  clear HH H3 B3 HB2
  go_wp2_with fail
  have B4 : Below w3.heap.size w3 ((w3.alloc (.cells #[.int .i64 3, .int .i64 1, .int .i64 5, .int .i64 2, .int .i64 9, .int .i64 1] 27)).alloc (.cells #[.int .i64 1, .int .i64 1, .int .i64 2] 3)) := ((Below.refl _ _).alloc (Nat.le_refl _) _).alloc (by simp) _
  have k4 : Bk ((w3.alloc (.cells #[.int .i64 3, .int .i64 1, .int .i64 5, .int .i64 2, .int .i64 9, .int .i64 1] 27)).alloc (.cells #[.int .i64 1, .int .i64 1, .int .i64 2] 3)) w3.heap.size #[.int .i64 3, .int .i64 1, .int .i64 5, .int .i64 2, .int .i64 9, .int .i64 1] 27 := Bk.alloc (Bk.new _ _ _) _
  refine (HN.out _ _ _ (is_bk (xs := [1, 1, 2]) (Bk.newB (by simp))) (ks_bk encZ (l := z3) k4)).mono ?_
  rintro e w4 ⟨rfl, H4⟩
  have HB4 : Hid (Below w.heap.size w w4 ∧ KS 2 fP w4 cv [⟨0, 0, 1⟩, ⟨1, 0, 2⟩, ⟨0, 1, 1⟩] ∧ IS w4 wv [3, 6] ∧ IS w4 hv [5, 9] ∧ Bk w4 w3.heap.size #[.int .i64 3, .int .i64 1, .int .i64 5, .int .i64 2, .int .i64 9, .int .i64 1] 27) := by
    have b := B4.trans (H4.out.mono B4.size)
    exact ⟨HB3.out.1.trans (b.mono HB3.out.1.size), HB3.out.2.1.below b, HB3.out.2.2.1.below b, HB3.out.2.2.2.below b, k4.below H4.out⟩
  obtain ⟨zb, Hzb⟩ : ∃ zb, Hid (zb = w3.heap.size) := ⟨_, rfl⟩
  rw [← Hzb.out] at HB4 ⊢
  clear HN H4 B4 HB3 k4 Hzb
  go_wp2_with fail
  have B5 : Below w4.heap.size w4 ((w4.alloc (.cells #[.int .i64 9, .int .i64 4] 27)).alloc (.cells #[.int .i64 1, .int .i64 1, .int .i64 2] 3)) := ((Below.refl _ _).alloc (Nat.le_refl _) _).alloc (by simp) _
  have k5 : Bk ((w4.alloc (.cells #[.int .i64 9, .int .i64 4] 27)).alloc (.cells #[.int .i64 1, .int .i64 1, .int .i64 2] 3)) w4.heap.size #[.int .i64 9, .int .i64 4] 27 := Bk.alloc (Bk.new _ _ _) _
  refine (HR.out _ _ _ (is_bk (xs := [1, 1, 2]) (Bk.newB (by simp))) (ks_bk encZ (l := z3) (HB4.out.2.2.2.2.below B5))).mono ?_
  rintro e w5 ⟨rv, rfl, H5⟩
  have HB5 : Hid (Below w.heap.size w w5 ∧ KS 2 fP w5 cv [⟨0, 0, 1⟩, ⟨1, 0, 2⟩, ⟨0, 1, 1⟩] ∧ IS w5 wv [3, 6] ∧ IS w5 hv [5, 9] ∧ Bk w5 w4.heap.size #[.int .i64 9, .int .i64 4] 27 ∧ KS 4 fR w5 rv [⟨0, 0, 5, 3⟩, ⟨6, 0, 7, 3⟩, ⟨0, 4, 13, 2⟩]) := by
    have b := B5.trans (H5.out.2.mono B5.size)
    exact ⟨HB4.out.1.trans (b.mono HB4.out.1.size), HB4.out.2.1.below b, HB4.out.2.2.1.below b, HB4.out.2.2.2.1.below b, k5.below H5.out.2, H5.out.1.ks encR⟩
  obtain ⟨nb, Hnb⟩ : ∃ nb, Hid (nb = w4.heap.size) := ⟨_, rfl⟩
  rw [← Hnb.out] at HB5 ⊢
  clear HR H5 B5 HB4 k5 Hnb
  go_wp2_with fail
  have B6 : Below w5.heap.size w5 (w5.alloc (.cells #[.int .i64 1] 3)) := (Below.refl _ _).alloc (Nat.le_refl _) _
  refine (HW2.out _ _ _ (is_bk (xs := [1]) (Bk.new _ _ _)) (is_nil _)).mono ?_
  rintro e w6 ⟨ev, rfl, H6⟩
  have b6 := B6.trans (H6.out.2.mono B6.size)
  obtain ⟨a1, a2, a3, a4, a5, a6⟩ := HB5.out
  have HF : Hid (Below w.heap.size w w6) := a1.trans (b6.mono a1.size)
  obtain ⟨co, cc, rfl, _, cg⟩ := a2.below b6
  obtain ⟨cb, cf, rfl, cl, cat⟩ := cg (by simp)
  obtain ⟨wo, wc, rfl, _, wg⟩ := a3.below b6
  obtain ⟨wb, wf, rfl, wl, wat⟩ := wg (by simp)
  obtain ⟨ho, hc, rfl, _, hg⟩ := a4.below b6
  obtain ⟨hb, hf, rfl, hl, hat⟩ := hg (by simp)
  obtain ⟨ro, rc, rfl, _, rg⟩ := a6.below b6
  obtain ⟨rb, rf, rfl, rl, rat⟩ := rg (by simp)
  have k6 := a5.below b6
  have c0 : w6.cell? ⟨cb, cf + 4, none⟩ = some (.int .i64 0) := cat 2 (by simp) 0 (by omega)
  have c1 : w6.cell? ⟨cb, cf + 5, none⟩ = some (.int .i64 1) := cat 2 (by simp) 1 (by omega)
  have v0 : w6.cell? ⟨wb, wf, none⟩ = some (.int .i64 3) := wat 0 (by simp)
  have v1 : w6.cell? ⟨wb, wf + 1, none⟩ = some (.int .i64 6) := wat 1 (by simp)
  have g0 : w6.cell? ⟨hb, hf, none⟩ = some (.int .i64 5) := hat 0 (by simp)
  have g1 : w6.cell? ⟨hb, hf + 1, none⟩ = some (.int .i64 9) := hat 1 (by simp)
  have n0 := k6.at2.1
  have n1 := k6.at2.2
  have r0 : w6.cell? ⟨rb, rf + 4, none⟩ = some (.int .i64 6) := rat 1 (by simp) 0 (by omega)
  have r1 : w6.cell? ⟨rb, rf + 5, none⟩ = some (.int .i64 0) := rat 1 (by simp) 1 (by omega)
  have r2 : w6.cell? ⟨rb, rf + 6, none⟩ = some (.int .i64 7) := rat 1 (by simp) 2 (by omega)
  have r3 : w6.cell? ⟨rb, rf + 7, none⟩ = some (.int .i64 3) := rat 1 (by simp) 3 (by omega)
  have r4 : w6.cell? ⟨rb, rf + 9, none⟩ = some (.int .i64 4) := rat 2 (by simp) 1 (by omega)
  simp only [List.length_cons, List.length_nil, Nat.zero_add, Nat.reduceAdd]
  clear HW2 H6 B6 b6 HB5 a1 a2 a3 a4 a5 a6 cg cat wg wat hg hat rg rat k6
  go_wp2
  go_ret
  exact ⟨rfl, HF.out⟩

end Go.Proofs.YthnhcphkpffkfaaGreat
