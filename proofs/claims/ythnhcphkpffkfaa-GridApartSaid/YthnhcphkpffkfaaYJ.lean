/-
  The document's grid: Cells, Widths, Heights, Need.
-/
import Derived.Test.YthnhcphkpffkfaaYH
namespace Go.Proofs.Ythnhcphkpffkfaa
open Go.RowKit

set_option maxHeartbeats 2000000 in
theorem rCells_any (s : List Int) (col : Int) (v : Value) (w : World) (hv : IS w v s) :
    Calls Try.prog 15 #[v, .int .i64 col] w fun e w' => ∃ u, e = .returned (.tuple #[u, .int .i64 (ceE s col)]) ∧ Hid (OwK 40 2 fP w.heap.size w' u (ceL s col) ∧ Below w.heap.size w w') := by
  have HV : Hid (IS w v s) := hv
  have H1 : Hid (∀ W, IS W v s → Calls Try.prog 45 #[v, .int .i64 64] W fun e w' => e = .returned (.int .i64 (eaC s 64)) ∧ w' = W) := fun W h => reach_any s 64 v W h
  have H2 : Hid (∀ W, Calls Try.prog 46 #[.int .i64 col, .int .i64 64] W fun e w' => e = .returned (.int .i64 (nuC col 64)) ∧ w' = W) := fun W => rnum_any col 64 W
  have HFi : Hid (∀ x W, IS W x [eaC s 64, nuC col 64] → Calls Try.prog 44 #[x] W fun e w' => e = .returned (.int .i64 (ceE s col)) ∧ w' = W) := fun x W h => rfirst_any _ x W h (by simp)
  have HC : Hid (ceE s col = 0 → ∀ W, IS W v s → Calls Try.prog 47 #[v, .int .i64 col] W fun e w' => ∃ u q, e = .returned (.tuple #[u, q]) ∧ Hid (OwK 40 2 fP W.heap.size w' u (cel (clN col) s) ∧ OwI W.heap.size w' q (wdL (cel (clN col) s)) ∧ Below W.heap.size W w')) := fun h W hW => by
    have hz := fsC_zero h
    exact rcells_any s col v W hW (eaC_zero (hz (eaC s 64) (by simp))).1 (nuC_zero (hz (nuC col 64) (by simp)))
  have HL : Hid ((ceE s col = 0 → ceL s col = cel (clN col) s) ∧ (ceE s col ≠ 0 → ceL s col = [])) := by
    unfold ceL
    exact ⟨fun h => if_pos h, fun h => if_neg h⟩
  clear hv
  generalize ceE s col = R at *
  generalize eaC s 64 = r1 at *
  generalize nuC col 64 = r2 at *
  go_enter Try.func15, Try.ntmps15
  go_wp2_with fail
  refine (H1.out _ HV.out).mono ?_
  rintro e w1 ⟨rfl, rfl⟩
  go_wp2_with fail
  refine (H2.out _).mono ?_
  rintro e w2 ⟨rfl, rfl⟩
  go_wp2_with fail
  refine (HFi.out _ _ (is_lit _ [_, _] _)).mono ?_
  rintro e w3 ⟨rfl, rfl⟩
  have HB : Hid (∀ o, Below w2.heap.size w2 (w2.alloc o)) := fun o => (Below.refl _ _).alloc (Nat.le_refl _) o
  clear H1 H2 HFi
  by_cases h0 : R = 0
  · have hC := HC.out h0
    have hL := HL.out.1 h0
    have HC2 : Hid (∀ W, IS W v s → Calls Try.prog 47 #[v, .int .i64 col] W fun e w' => ∃ u q, e = .returned (.tuple #[u, q]) ∧ Hid (OwK 40 2 fP W.heap.size w' u (cel (clN col) s) ∧ OwI W.heap.size w' q (wdL (cel (clN col) s)) ∧ Below W.heap.size W w')) := hC
    have HL2 : Hid (ceL s col = cel (clN col) s) := hL
    clear HC HL hC hL
    subst h0
    go_wp2_with fail
    refine (HC2.out _ (HV.out.below (HB.out _))).mono ?_
    rintro e w4 ⟨u, q, rfl, H4⟩
    have HF : Hid (OwK 40 2 fP w2.heap.size w4 u (ceL s col) ∧ Below w2.heap.size w2 w4) := by
      rw [HL2.out]
      exact ⟨H4.out.1.weaken (HB.out _).size, (HB.out _).trans (H4.out.2.2.mono (HB.out _).size)⟩
    clear H4 HB HC2 HV
    go_wp2
    go_ret2
    exact ⟨_, rfl, HF⟩
  · have hL : Hid (ceL s col = []) := HL.out.2 h0
    clear HC HL
    go_wp2
    go_ret2
    exact ⟨_, rfl, by rw [hL.out]; exact ⟨OwK.nil _ _ _ _ _, HB.out _⟩⟩

set_option maxHeartbeats 4000000 in
theorem rWidths_any (s m : List Int) (col gap : Int) (sv mv : Value) (w : World) (hs : IS w sv s) (hm : IS w mv m) :
    Calls Try.prog 16 #[sv, mv, .int .i64 col, .int .i64 gap] w fun e w' => ∃ u, e = .returned (.tuple #[u, .int .i64 (wiE s m col gap)]) ∧ Hid (OwI w.heap.size w' u (wiL s m col gap) ∧ Below w.heap.size w w') := by
  have HV : Hid (IS w sv s ∧ IS w mv m) := ⟨hs, hm⟩
  obtain ⟨so, sc, rfl, _, _⟩ := hs
  obtain ⟨mo, mc, rfl, _, _⟩ := hm
  have H1 : Hid (∀ W, IS W (.slice so s.length sc) s → Calls Try.prog 45 #[.slice so s.length sc, .int .i64 64] W fun e w' => e = .returned (.int .i64 (eaC s 64)) ∧ w' = W) := fun W h => reach_any s 64 _ W h
  have H1m : Hid (∀ W, IS W (.slice mo m.length mc) m → Calls Try.prog 45 #[.slice mo m.length mc, .int .i64 16384] W fun e w' => e = .returned (.int .i64 (eaC m 16384)) ∧ w' = W) := fun W h => reach_any m 16384 _ W h
  have H2 : Hid (∀ W, Calls Try.prog 46 #[.int .i64 col, .int .i64 64] W fun e w' => e = .returned (.int .i64 (nuC col 64)) ∧ w' = W) := fun W => rnum_any col 64 W
  have H3 : Hid (∀ W, Calls Try.prog 46 #[.int .i64 gap, .int .i64 16384] W fun e w' => e = .returned (.int .i64 (nuC gap 16384)) ∧ w' = W) := fun W => rnum_any gap 16384 W
  have HFi : Hid (∀ x W, IS W x [eaC s 64, eaC m 16384, nuC col 64, nuC gap 16384] → Calls Try.prog 44 #[x] W fun e w' => e = .returned (.int .i64 (wiE0 s m col gap)) ∧ w' = W) := fun x W h => rfirst_any _ x W h (by simp)
  have HC : Hid (wiE s m col gap = 0 → ∀ W, IS W (.slice so s.length sc) s → IS W (.slice mo m.length mc) m → Calls Try.prog 48 #[.slice so s.length sc, .slice mo m.length mc, .int .i64 col, .int .i64 gap] W fun e w' => ∃ u, e = .returned u ∧ Hid (OwI W.heap.size w' u (wsG (clN col) gap (cel (clN col) s) m) ∧ Below W.heap.size W w')) := fun h W a b => rwidths_any s m col gap _ _ W a b h
  have HL : Hid ((wiE s m col gap = 0 → wiL s m col gap = wsG (clN col) gap (cel (clN col) s) m) ∧ (wiE s m col gap ≠ 0 → wiL s m col gap = [])) := by
    unfold wiL
    exact ⟨fun h => if_pos h, fun h => if_neg h⟩
  have HE : Hid ((wiE0 s m col gap = 0 → wiE s m col gap = if m.length = s.length then 0 else 110) ∧ (wiE0 s m col gap ≠ 0 → wiE s m col gap = wiE0 s m col gap)) := by
    unfold wiE
    exact ⟨fun h => if_pos h, fun h => if_neg h⟩
  generalize wiE s m col gap = R at *
  generalize wiE0 s m col gap = R0 at *
  generalize wiL s m col gap = RL at *
  generalize eaC s 64 = r1 at *
  generalize eaC m 16384 = r4 at *
  generalize nuC col 64 = r2 at *
  generalize nuC gap 16384 = r3 at *
  go_enter Try.func16, Try.ntmps16
  go_wp2_with fail
  refine (H1.out _ HV.out.1).mono ?_
  rintro e w1 ⟨rfl, rfl⟩
  go_wp2_with fail
  refine (H1m.out _ HV.out.2).mono ?_
  rintro e w2 ⟨rfl, rfl⟩
  go_wp2_with fail
  refine (H2.out _).mono ?_
  rintro e w3 ⟨rfl, rfl⟩
  go_wp2_with fail
  refine (H3.out _).mono ?_
  rintro e w4 ⟨rfl, rfl⟩
  go_wp2_with fail
  refine (HFi.out _ _ (is_lit _ [_, _, _, _] _)).mono ?_
  rintro e w5 ⟨rfl, rfl⟩
  have HB : Hid (∀ o, Below w4.heap.size w4 (w4.alloc o)) := fun o => (Below.refl _ _).alloc (Nat.le_refl _) o
  clear H1 H1m H2 H3 HFi
  by_cases h0 : R0 = 0
  · have hE := HE.out.1 h0
    clear HE
    subst h0
    by_cases hl : m.length = s.length
    · rw [if_pos hl] at hE
      subst hE
      have HC2 := HC.out rfl
      have HL2 : Hid (RL = wsG (clN col) gap (cel (clN col) s) m) := HL.out.1 rfl
      have HC3 : Hid (∀ W, IS W (.slice so s.length sc) s → IS W (.slice mo m.length mc) m → Calls Try.prog 48 #[.slice so s.length sc, .slice mo m.length mc, .int .i64 col, .int .i64 gap] W fun e w' => ∃ u, e = .returned u ∧ Hid (OwI W.heap.size w' u (wsG (clN col) gap (cel (clN col) s) m) ∧ Below W.heap.size W w')) := HC2
      clear HC HL HC2
      have il : (m.length : Int) = s.length := by omega
      rw [hl] at HC3 HV ⊢
      clear il hl
      go_wp2_with fail
      refine (HC3.out _ (HV.out.1.below (HB.out _)) (HV.out.2.below (HB.out _))).mono ?_
      rintro e w6 ⟨u, rfl, H6⟩
      have HF : Hid (OwI w4.heap.size w6 u RL ∧ Below w4.heap.size w4 w6) := by
        rw [HL2.out]
        exact ⟨H6.out.1.weaken (HB.out _).size, (HB.out _).trans (H6.out.2.mono (HB.out _).size)⟩
      clear H6 HB HC3 HV
      go_wp2
      go_ret2
      exact ⟨_, rfl, HF⟩
    · rw [if_neg hl] at hE
      subst hE
      have hL : Hid (RL = []) := HL.out.2 (by omega)
      have il : ¬ (m.length : Int) = s.length := by omega
      clear HC HL
      go_wp2
      go_ret2
      exact ⟨_, rfl, by rw [hL.out]; exact ⟨OwI.nil _ _, HB.out _⟩⟩
  · have hE := HE.out.2 h0
    subst hE
    have hL : Hid (RL = []) := HL.out.2 h0
    clear HC HL HE
    go_wp2
    go_ret2
    exact ⟨_, rfl, by rw [hL.out]; exact ⟨OwI.nil _ _, HB.out _⟩⟩

end Go.Proofs.Ythnhcphkpffkfaa

namespace Go.Proofs.Ythnhcphkpffkfaa
open Go.RowKit

set_option maxHeartbeats 4000000 in
theorem rHeights_any (s m : List Int) (col : Int) (sv mv : Value) (w : World) (hs : IS w sv s) (hm : IS w mv m) :
    Calls Try.prog 17 #[sv, mv, .int .i64 col] w fun e w' => ∃ u, e = .returned (.tuple #[u, .int .i64 (heE s m col)]) ∧ Hid (OwI w.heap.size w' u (heL s m col) ∧ Below w.heap.size w w') := by
  have HV : Hid (IS w sv s ∧ IS w mv m) := ⟨hs, hm⟩
  obtain ⟨so, sc, rfl, _, _⟩ := hs
  obtain ⟨mo, mc, rfl, _, _⟩ := hm
  have H1 : Hid (∀ W, IS W (.slice so s.length sc) s → Calls Try.prog 45 #[.slice so s.length sc, .int .i64 64] W fun e w' => e = .returned (.int .i64 (eaC s 64)) ∧ w' = W) := fun W h => reach_any s 64 _ W h
  have H1m : Hid (∀ W, IS W (.slice mo m.length mc) m → Calls Try.prog 45 #[.slice mo m.length mc, .int .i64 16384] W fun e w' => e = .returned (.int .i64 (eaC m 16384)) ∧ w' = W) := fun W h => reach_any m 16384 _ W h
  have H2 : Hid (∀ W, Calls Try.prog 46 #[.int .i64 col, .int .i64 64] W fun e w' => e = .returned (.int .i64 (nuC col 64)) ∧ w' = W) := fun W => rnum_any col 64 W
  have HFi : Hid (∀ x W, IS W x [eaC s 64, eaC m 16384, nuC col 64] → Calls Try.prog 44 #[x] W fun e w' => e = .returned (.int .i64 (heE0 s m col)) ∧ w' = W) := fun x W h => rfirst_any _ x W h (by simp)
  have HC : Hid (heE s m col = 0 → ∀ W, IS W (.slice so s.length sc) s → IS W (.slice mo m.length mc) m → Calls Try.prog 49 #[.slice so s.length sc, .slice mo m.length mc, .int .i64 col] W fun e w' => ∃ u, e = .returned u ∧ Hid (OwI W.heap.size w' u (hgt (cel (clN col) s) m) ∧ Below W.heap.size W w')) := fun h W a b => rheights_any s m col _ _ W a b h
  have HL : Hid ((heE s m col = 0 → heL s m col = hgt (cel (clN col) s) m) ∧ (heE s m col ≠ 0 → heL s m col = [])) := by
    unfold heL
    exact ⟨fun h => if_pos h, fun h => if_neg h⟩
  have HE : Hid ((heE0 s m col = 0 → heE s m col = if m.length = s.length then 0 else 110) ∧ (heE0 s m col ≠ 0 → heE s m col = heE0 s m col)) := by
    unfold heE
    exact ⟨fun h => if_pos h, fun h => if_neg h⟩
  generalize heE s m col = R at *
  generalize heE0 s m col = R0 at *
  generalize heL s m col = RL at *
  generalize eaC s 64 = r1 at *
  generalize eaC m 16384 = r4 at *
  generalize nuC col 64 = r2 at *
  go_enter Try.func17, Try.ntmps17
  go_wp2_with fail
  refine (H1.out _ HV.out.1).mono ?_
  rintro e w1 ⟨rfl, rfl⟩
  go_wp2_with fail
  refine (H1m.out _ HV.out.2).mono ?_
  rintro e w2 ⟨rfl, rfl⟩
  go_wp2_with fail
  refine (H2.out _).mono ?_
  rintro e w3 ⟨rfl, rfl⟩
  go_wp2_with fail
  refine (HFi.out _ _ (is_lit _ [_, _, _] _)).mono ?_
  rintro e w5 ⟨rfl, rfl⟩
  have HB : Hid (∀ o, Below w3.heap.size w3 (w3.alloc o)) := fun o => (Below.refl _ _).alloc (Nat.le_refl _) o
  clear H1 H1m H2 HFi
  by_cases h0 : R0 = 0
  · have hE := HE.out.1 h0
    clear HE
    subst h0
    by_cases hl : m.length = s.length
    · rw [if_pos hl] at hE
      subst hE
      have HC2 := HC.out rfl
      have HL2 : Hid (RL = hgt (cel (clN col) s) m) := HL.out.1 rfl
      have HC3 : Hid (∀ W, IS W (.slice so s.length sc) s → IS W (.slice mo m.length mc) m → Calls Try.prog 49 #[.slice so s.length sc, .slice mo m.length mc, .int .i64 col] W fun e w' => ∃ u, e = .returned u ∧ Hid (OwI W.heap.size w' u (hgt (cel (clN col) s) m) ∧ Below W.heap.size W w')) := HC2
      clear HC HL HC2
      have il : (m.length : Int) = s.length := by omega
      rw [hl] at HC3 HV ⊢
      clear il hl
      go_wp2_with fail
      refine (HC3.out _ (HV.out.1.below (HB.out _)) (HV.out.2.below (HB.out _))).mono ?_
      rintro e w6 ⟨u, rfl, H6⟩
      have HF : Hid (OwI w3.heap.size w6 u RL ∧ Below w3.heap.size w3 w6) := by
        rw [HL2.out]
        exact ⟨H6.out.1.weaken (HB.out _).size, (HB.out _).trans (H6.out.2.mono (HB.out _).size)⟩
      clear H6 HB HC3 HV
      go_wp2
      go_ret2
      exact ⟨_, rfl, HF⟩
    · rw [if_neg hl] at hE
      subst hE
      have hL : Hid (RL = []) := HL.out.2 (by omega)
      have il : ¬ (m.length : Int) = s.length := by omega
      clear HC HL
      go_wp2
      go_ret2
      exact ⟨_, rfl, by rw [hL.out]; exact ⟨OwI.nil _ _, HB.out _⟩⟩
  · have hE := HE.out.2 h0
    subst hE
    have hL : Hid (RL = []) := HL.out.2 h0
    clear HC HL HE
    go_wp2
    go_ret2
    exact ⟨_, rfl, by rw [hL.out]; exact ⟨OwI.nil _ _, HB.out _⟩⟩

end Go.Proofs.Ythnhcphkpffkfaa

namespace Go.Proofs.Ythnhcphkpffkfaa
open Go.RowKit

theorem hgt_len {s m : List Int} {c : Int} (h : heE s m c = 0) : (hgt (cel (clN c) s) m).length ≤ 1024 ∧ ∀ x ∈ hgt (cel (clN c) s) m, 0 ≤ x ∧ x ≤ 16384 := by
  obtain ⟨hl, hm, hc, hml⟩ := heE_zero h
  obtain ⟨h1, h2, _⟩ := hgt_all (clN_pos c) hml.symm hm
  exact ⟨by omega, h2⟩
theorem wsG_ok {s m : List Int} {c gap : Int} (h : wiE s m c gap = 0) : (wsG (clN c) gap (cel (clN c) s) m).length ≤ 1024 ∧ ∀ x ∈ wsG (clN c) gap (cel (clN c) s) m, 0 ≤ x ∧ x ≤ 16384 := by
  obtain ⟨_, _, _, hc, _, _, _⟩ := wiE_zero h
  have hb := clN_bd hc
  have hG := gri_of h
  refine ⟨by rw [wsG_len]; omega, fun x hx => ?_⟩
  obtain ⟨i, hi, rfl⟩ := List.mem_iff_getElem.1 hx
  rw [wsG_at hi]
  exact hG.wid (by rwa [wsG_len] at hi)

end Go.Proofs.Ythnhcphkpffkfaa
