/-
  The document's grid: Cells, Widths, Heights, Need.
-/
import Derived.Test.YthnhcphkpffkfaaGreatYH
namespace Go.Proofs.YthnhcphkpffkfaaGreat
open Go.RowKit

set_option maxHeartbeats 2000000 in
theorem rsized_any (z : List Sz) (v : Value) (w : World) (hv : KS 2 fZ w v z) :
    Calls Tryz.prog 36 #[v] w fun e w' => e = .returned (.int .i64 (szC z)) ∧ Below w.heap.size w w' := by
  have HV : Hid (KS 2 fZ w v z) := hv
  obtain ⟨oa, cap, rfl, _, _⟩ := hv
  unfold szC
  by_cases h2 : 1024 < z.length
  · rw [if_pos h2]
    have i2 : (1024 : Int) < z.length := by omega
    go_enter Tryz.func36, Tryz.ntmps36
    go_wp2
    go_ret
    exact ⟨rfl, Below.refl _ _⟩
  rw [if_neg h2]
  have i2 : ¬ (1024 : Int) < z.length := by omega
  have HS : Hid (Calls Tryz.prog 38 #[.slice oa z.length cap] w fun e w' => ∃ u q, e = .returned (.tuple #[u, q]) ∧ Hid (OwI w.heap.size w' u (z.map (·.w)) ∧ OwI w.heap.size w' q (z.map (·.h)) ∧ Below w.heap.size w w')) := rsides_any z _ w HV.out (by omega)
  have HEa : Hid (∀ l x W, IS W x l → Calls Tryz.prog 35 #[x, .int .i64 16384] W fun e w' => e = .returned (.int .i64 (eaC l 16384)) ∧ w' = W) := fun l x W h => reach_any l 16384 x W h
  have HFi : Hid (∀ x W, IS W x [eaC (z.map (·.w)) 16384, eaC (z.map (·.h)) 16384] → Calls Tryz.prog 34 #[x] W fun e w' => e = .returned (.int .i64 (fsC [eaC (z.map (·.w)) 16384, eaC (z.map (·.h)) 16384])) ∧ w' = W) := fun x W h => rfirst_any _ x W h (by simp)
  clear HV
  generalize fsC [eaC (z.map (·.w)) 16384, eaC (z.map (·.h)) 16384] = R at *
  go_enter Tryz.func36, Tryz.ntmps36
  go_wp2_with fail
  refine HS.out.mono ?_
  rintro e w1 ⟨u, q, rfl, H1⟩
  clear HS
  go_wp2_with fail
  refine (HEa.out _ _ _ H1.out.1.is).mono ?_
  rintro e w2 ⟨rfl, rfl⟩
  go_wp2_with fail
  refine (HEa.out _ _ _ H1.out.2.1.is).mono ?_
  rintro e w3 ⟨rfl, rfl⟩
  go_wp2_with fail
  refine (HFi.out _ _ (is_lit _ [_, _] _)).mono ?_
  rintro e w4 ⟨rfl, rfl⟩
  have HB : Hid (∀ o, Below w.heap.size w (w3.alloc o)) := fun o => H1.out.2.2.alloc H1.out.2.2.size o
  clear H1 HEa HFi
  go_wp2
  go_ret
  exact ⟨rfl, HB.out _⟩

end Go.Proofs.YthnhcphkpffkfaaGreat

namespace Go.Proofs.YthnhcphkpffkfaaGreat
open Go.RowKit

end Go.Proofs.YthnhcphkpffkfaaGreat

namespace Go.Proofs.YthnhcphkpffkfaaGreat
open Go.RowKit

theorem hgt_len {s m : List Int} {c : Int} (h : heE s m c = 0) : (hgt (cel (clN c) s) m).length ≤ 1024 ∧ ∀ x ∈ hgt (cel (clN c) s) m, 0 ≤ x ∧ x ≤ 16384 := by
  obtain ⟨hl, hm, hc, hml⟩ := heE_zero h
  obtain ⟨h1, h2, _⟩ := hgt_all (clN_pos c) hml.symm hm
  exact ⟨by omega, h2⟩
theorem wsG_ok {s m : List Int} {c gap : Int} (h : wiE s m c gap = 0) : (wsG (clN c) gap (cel (clN c) s) m).length ≤ 1024 ∧ ∀ x ∈ wsG (clN c) gap (cel (clN c) s) m, 0 ≤ x ∧ x ≤ 16384 := by
  obtain ⟨_, _, _, hc, _, _, _⟩ := wiE_zero h
  have hb := clN_bd hc
  have hG := gri_of h
  refine ⟨by rw [wsG_len]; omega, fun x hx => ?_⟩
  obtain ⟨i, hi, rfl⟩ := List.mem_iff_getElem.1 hx
  rw [wsG_at hi]
  exact hG.wid (by rwa [wsG_len] at hi)

set_option maxRecDepth 10000 in
set_option maxHeartbeats 8000000 in
theorem rNeed_grid (s : List Int) (z : List Sz) (col gap : Int) (sv zv : Value) (w : World) (hs : IS w sv s) (hz : KS 2 fZ w zv z) :
    Calls Tryz.prog 10 #[sv, zv, .int .i64 col, .int .i64 gap] w fun e w' => e = .returned (.tuple #[.agg #[.int .i64 (neZ s z col gap).w, .int .i64 (neZ s z col gap).h], .int .i64 (neE s z col gap)]) ∧ Hid (Below w.heap.size w w') := by
  have HV : Hid (IS w sv s ∧ KS 2 fZ w zv z) := ⟨hs, hz⟩
  obtain ⟨so, sc, rfl, _, _⟩ := hs
  obtain ⟨zo, zc, rfl, _, _⟩ := hz
  have H1 : Hid (∀ W, IS W (.slice so s.length sc) s → Calls Tryz.prog 35 #[.slice so s.length sc, .int .i64 64] W fun e w' => e = .returned (.int .i64 (eaC s 64)) ∧ w' = W) := fun W h => reach_any s 64 _ W h
  have H1m : Hid (∀ W, KS 2 fZ W (.slice zo z.length zc) z → Calls Tryz.prog 36 #[.slice zo z.length zc] W fun e w' => e = .returned (.int .i64 (szC z)) ∧ Below W.heap.size W w') := fun W h => rsized_any z _ W h
  have H2 : Hid (∀ W, Calls Tryz.prog 37 #[.int .i64 col, .int .i64 64] W fun e w' => e = .returned (.int .i64 (nuC col 64)) ∧ w' = W) := fun W => rnum_any col 64 W
  have H3 : Hid (∀ W, Calls Tryz.prog 37 #[.int .i64 gap, .int .i64 16384] W fun e w' => e = .returned (.int .i64 (nuC gap 16384)) ∧ w' = W) := fun W => rnum_any gap 16384 W
  have HFi : Hid (∀ x W, IS W x [eaC s 64, szC z, nuC col 64, nuC gap 16384] → Calls Tryz.prog 34 #[x] W fun e w' => e = .returned (.int .i64 (gE0 s z col gap)) ∧ w' = W) := fun x W h => rfirst_any _ x W h (by simp)
  have HE1 : Hid ((gE0 s z col gap = 0 → gE1 s z col gap = if z.length = s.length then 0 else 110) ∧ (gE0 s z col gap ≠ 0 → gE1 s z col gap = gE0 s z col gap)) := by
    unfold gE1
    exact ⟨fun h => if_pos h, fun h => if_neg h⟩
  have HE2 : Hid (gE1 s z col gap ≠ 0 → neE s z col gap = gE1 s z col gap ∧ neZ s z col gap = ⟨0, 0⟩) := fun h => by
    have e : neE s z col gap = gE1 s z col gap := by unfold neE; exact if_neg h
    refine ⟨e, ?_⟩
    unfold neZ
    rw [e, if_neg h]
  by_cases h1 : gE1 s z col gap = 0
  · obtain ⟨hl1, _, _, hcol, hgap, hl, hwi, hhe⟩ := gE1_zero h1
    have h0 : gE0 s z col gap = 0 := by
      cases Decidable.em (gE0 s z col gap = 0) with
      | inl h => exact h
      | inr h => rw [HE1.out.2 h] at h1; exact absurd h1 h
    have HSi : Hid (∀ v W, KS 2 fZ W v z → Calls Tryz.prog 38 #[v] W fun e w' => ∃ u q, e = .returned (.tuple #[u, q]) ∧ Hid (OwI W.heap.size w' u (z.map (·.w)) ∧ OwI W.heap.size w' q (z.map (·.h)) ∧ Below W.heap.size W w')) := fun v W h => rsides_any z v W h (by omega)
    have HCe : Hid (∀ v W, IS W v s → Calls Tryz.prog 39 #[v, .int .i64 col] W fun e w' => ∃ u q, e = .returned (.tuple #[u, q]) ∧ Hid (OwK 25 2 fP W.heap.size w' u (cel (clN col) s) ∧ OwI W.heap.size w' q (wdL (cel (clN col) s)) ∧ Below W.heap.size W w')) := fun v W h => rcells_any s col v W h hl1 hcol
    have HHe : Hid (∀ v q W, IS W v s → IS W q (z.map (·.h)) → Calls Tryz.prog 40 #[v, q, .int .i64 col] W fun e w' => ∃ u, e = .returned u ∧ Hid (OwI W.heap.size w' u (hgt (cel (clN col) s) (z.map (·.h))) ∧ Below W.heap.size W w')) := fun v q W a b => rheights_any s _ col v q W a b hhe
    have HWi : Hid (∀ v q W, IS W v s → IS W q (z.map (·.w)) → Calls Tryz.prog 42 #[v, q, .int .i64 col, .int .i64 gap] W fun e w' => ∃ u, e = .returned u ∧ Hid (OwI W.heap.size w' u (wsG (clN col) gap (cel (clN col) s) (z.map (·.w))) ∧ Below W.heap.size W w')) := fun v q W a b => rwidths_any s _ col gap v q W a b hwi
    have hGr := gri_of hwi
    have hn64 := (clN_bd hcol).2
    have HUs : Hid (∀ v q W, KS 2 fP W v (cel (clN col) s) → IS W q (wdL (cel (clN col) s)) → Calls Tryz.prog 43 #[v, q] W fun e w' => e = .returned (.int .i64 (usd (cel (clN col) s))) ∧ Below W.heap.size W w') := fun v q W a b => rused_any _ (clN col) v q W a b (by rw [cel_len]; exact hl1) (fun c hc => (hGr.cel c hc).1) hn64
    have hu64 : usd (cel (clN col) s) ≤ 1024 := by have := usd_le (n := clN col) fun c hc => (hGr.cel c hc).1; omega
    have HS1 : Hid (∀ v W, IS W v (wsG (clN col) gap (cel (clN col) s) (z.map (·.w))) → Calls Tryz.prog 41 #[v, .int .i64 (usd (cel (clN col) s) : Nat), .int .i64 gap] W fun e w' => e = .returned (.int .i64 (gnW (clN col) gap (cel (clN col) s) z)) ∧ w' = W) := fun v W h => rsum_any _ _ gap v W h (wsG_ok hwi).1 hu64 (wsG_ok hwi).2 hgap
    have HS2 : Hid (∀ v W, IS W v (hgt (cel (clN col) s) (z.map (·.h))) → Calls Tryz.prog 41 #[v, .int .i64 ((hgt (cel (clN col) s) (z.map (·.h))).length : Nat), .int .i64 gap] W fun e w' => e = .returned (.int .i64 (gnH gap (cel (clN col) s) z)) ∧ w' = W) := fun v W h => rsum_any _ _ gap v W h (hgt_len hhe).1 (hgt_len hhe).1 (hgt_len hhe).2 hgap
    have HNe : Hid (neE s z col gap = (if 16384 < gnW (clN col) gap (cel (clN col) s) z ∨ 16384 < gnH gap (cel (clN col) s) z then 9 else 0) ∧ neZ s z col gap = if neE s z col gap = 0 then ⟨gnW (clN col) gap (cel (clN col) s) z, gnH gap (cel (clN col) s) z⟩ else ⟨0, 0⟩) := by
      refine ⟨?_, rfl⟩
      unfold neE
      rw [if_pos h1]
    rw [h0] at HFi
    clear HE1 HE2 hGr hwi hhe h0 h1
    generalize neE s z col gap = NE at *
    generalize neZ s z col gap = NZ at *
    generalize gnW (clN col) gap (cel (clN col) s) z = nW at *
    generalize gnH gap (cel (clN col) s) z = nH at *
    generalize wsG (clN col) gap (cel (clN col) s) (z.map (·.w)) = wL at *
    generalize hgt (cel (clN col) s) (z.map (·.h)) = hL at *
    generalize cel (clN col) s = C at *
    generalize usd C = U at *
    generalize z.map (·.w) = zw at *
    generalize z.map (·.h) = zh at *
    generalize eaC s 64 = r1 at *
    generalize szC z = r4 at *
    generalize nuC col 64 = r2 at *
    generalize nuC gap 16384 = r3 at *
    rw [hl] at H1m HV ⊢
    clear hl
    go_enter Tryz.func10, Tryz.ntmps10
    have HB0 : Hid (∀ o, Below w.heap.size w (w.alloc o)) := fun o => (Below.refl _ _).alloc (Nat.le_refl _) o
    go_wp2_with fail
    refine (H1.out _ (HV.out.1.below (HB0.out _))).mono ?_
    rintro e w1 ⟨rfl, rfl⟩
    go_wp2_with fail
    refine (H1m.out _ (HV.out.2.below (HB0.out _))).mono ?_
    rintro e w2 ⟨rfl, hb2⟩
    have HK : Hid (Bk w2 w.heap.size #[.int .i64 0, .int .i64 0] 27 ∧ Below w.heap.size w w2) := ⟨(Bk.new w _ _).below hb2, (HB0.out _).trans (hb2.mono (HB0.out _).size)⟩
    clear hb2 HB0
    go_wp2_with fail
    refine (H2.out _).mono ?_
    rintro e w3 ⟨rfl, rfl⟩
    go_wp2_with fail
    refine (H3.out _).mono ?_
    rintro e w4 ⟨rfl, rfl⟩
    go_wp2_with fail
    refine (HFi.out _ _ (is_lit _ [_, _, _, _] _)).mono ?_
    rintro e w5 ⟨rfl, hw5⟩
    have K5 : Hid (Bk w5 w.heap.size #[.int .i64 0, .int .i64 0] 27 ∧ Below w.heap.size w w5) := by rw [hw5]; exact ⟨HK.out.1.alloc _, HK.out.2.alloc HK.out.2.size _⟩
    clear HK hw5 H1 H1m H2 H3 HFi
    go_wp2_with fail
    refine (HSi.out _ _ (HV.out.2.below K5.out.2)).mono ?_
    rintro e w6 ⟨zu, zq, rfl, A6⟩
    have K6 : Hid (Bk w6 w.heap.size #[.int .i64 0, .int .i64 0] 27 ∧ Below w.heap.size w w6 ∧ IS w6 zu zw ∧ IS w6 zq zh) := ⟨K5.out.1.below A6.out.2.2, K5.out.2.trans (A6.out.2.2.mono K5.out.2.size), A6.out.1.is, A6.out.2.1.is⟩
    clear K5 A6 HSi
    go_wp2_with fail
    refine (HCe.out _ _ (HV.out.1.below K6.out.2.1)).mono ?_
    rintro e w7 ⟨pu, pq, rfl, A7⟩
    have K7 : Hid (Bk w7 w.heap.size #[.int .i64 0, .int .i64 0] 27 ∧ Below w.heap.size w w7 ∧ IS w7 zu zw ∧ IS w7 zq zh ∧ KS 2 fP w7 pu C ∧ IS w7 pq (wdL C)) := ⟨K6.out.1.below A7.out.2.2, K6.out.2.1.trans (A7.out.2.2.mono K6.out.2.1.size), K6.out.2.2.1.below A7.out.2.2, K6.out.2.2.2.below A7.out.2.2, A7.out.1.ks encP, A7.out.2.1.is⟩
    clear K6 A7 HCe
    go_wp2_with fail
    refine (HHe.out _ _ _ (HV.out.1.below K7.out.2.1) K7.out.2.2.2.1).mono ?_
    rintro e w8 ⟨hu, rfl, A8⟩
    have K8 : Hid (Bk w8 w.heap.size #[.int .i64 0, .int .i64 0] 27 ∧ Below w.heap.size w w8 ∧ IS w8 zu zw ∧ KS 2 fP w8 pu C ∧ IS w8 pq (wdL C) ∧ IS w8 hu hL) := ⟨K7.out.1.below A8.out.2, K7.out.2.1.trans (A8.out.2.mono K7.out.2.1.size), K7.out.2.2.1.below A8.out.2, K7.out.2.2.2.2.1.below A8.out.2, K7.out.2.2.2.2.2.below A8.out.2, A8.out.1.is⟩
    clear K7 A8 HHe
    obtain ⟨ho, hcap, e8, _, _⟩ := id K8.out.2.2.2.2.2
    subst e8
    go_wp2_with fail
    refine (HWi.out _ _ _ (HV.out.1.below K8.out.2.1) K8.out.2.2.1).mono ?_
    rintro e w9 ⟨wu, rfl, A9⟩
    have K9 : Hid (Bk w9 w.heap.size #[.int .i64 0, .int .i64 0] 27 ∧ Below w.heap.size w w9 ∧ KS 2 fP w9 pu C ∧ IS w9 pq (wdL C) ∧ IS w9 (.slice ho hL.length hcap) hL ∧ IS w9 wu wL) := ⟨K8.out.1.below A9.out.2, K8.out.2.1.trans (A9.out.2.mono K8.out.2.1.size), K8.out.2.2.2.1.below A9.out.2, K8.out.2.2.2.2.1.below A9.out.2, K8.out.2.2.2.2.2.below A9.out.2, A9.out.1.is⟩
    clear K8 A9 HWi
    go_wp2_with fail
    refine (HUs.out _ _ _ K9.out.2.2.1 K9.out.2.2.2.1).mono ?_
    rintro e wa ⟨rfl, ba⟩
    have Ka : Hid (Bk wa w.heap.size #[.int .i64 0, .int .i64 0] 27 ∧ Below w.heap.size w wa ∧ IS wa (.slice ho hL.length hcap) hL ∧ IS wa wu wL) := ⟨K9.out.1.below ba, K9.out.2.1.trans (ba.mono K9.out.2.1.size), K9.out.2.2.2.2.1.below ba, K9.out.2.2.2.2.2.below ba⟩
    clear K9 ba HUs
    go_wp2_with fail
    refine (HS1.out _ _ Ka.out.2.2.2).mono ?_
    rintro e wb ⟨rfl, rfl⟩
    go_wp2_with fail
    refine (HS2.out _ _ Ka.out.2.2.1).mono ?_
    rintro e wc ⟨rfl, rfl⟩
    clear HS1 HS2 HV
    obtain ⟨b0, b1, _, _⟩ := Ka.out
    clear Ka
    obtain ⟨c0, c1⟩ := b0.at2
    have f0 := b0.frozen 0
    have f1 := b0.frozen 1
    have hlt := b0.lt
    have hne : ¬ w.heap.size = wc.heap.size := by omega
    have hne' : ¬ wc.heap.size = w.heap.size := by omega
    have HBx : Hid (∀ a b o, Bk (((wc.setCell ⟨w.heap.size, 0, none⟩ a).setCell ⟨w.heap.size, 1, none⟩ b).alloc o) w.heap.size #[a, b] 27 ∧ Below w.heap.size w (((wc.setCell ⟨w.heap.size, 0, none⟩ a).setCell ⟨w.heap.size, 1, none⟩ b).alloc o)) := fun a b o => ⟨((b0.put 0 a).put 1 b).alloc o, ((b1.setCell (p := ⟨w.heap.size, 0, none⟩) (Nat.le_refl _) a).setCell (p := ⟨w.heap.size, 1, none⟩) (Nat.le_refl _) b).alloc ((b1.setCell (p := ⟨w.heap.size, 0, none⟩) (Nat.le_refl _) a).setCell (p := ⟨w.heap.size, 1, none⟩) (Nat.le_refl _) b).size o⟩
    clear b0 b1
    obtain ⟨hNE, hNZ⟩ := HNe.out
    clear HNe
    by_cases c9 : 16384 < nW
    · rw [if_pos (.inl c9)] at hNE
      subst hNE
      rw [if_neg (by omega)] at hNZ
      subst hNZ
      go_wp2
      obtain ⟨hx, hy⟩ := HBx.out (.int .i64 0) (.int .i64 0) (.cells #[.int .i64 nW, .int .i64 nH] 27)
      obtain ⟨x0, x1⟩ := hx.at2
      exact bodyPost_ret (v := .tuple #[.agg #[.int .i64 0, .int .i64 0], .int .i64 9]) (by simp [results, Tryz.results10, go_sem, x0, x1]) rfl ⟨rfl, hy⟩
    · by_cases c8 : 16384 < nH
      · rw [if_pos (.inr c8)] at hNE
        subst hNE
        rw [if_neg (by omega)] at hNZ
        subst hNZ
        go_wp2
        obtain ⟨hx, hy⟩ := HBx.out (.int .i64 0) (.int .i64 0) (.cells #[.int .i64 nW, .int .i64 nH] 27)
        obtain ⟨x0, x1⟩ := hx.at2
        exact bodyPost_ret (v := .tuple #[.agg #[.int .i64 0, .int .i64 0], .int .i64 9]) (by simp [results, Tryz.results10, go_sem, x0, x1]) rfl ⟨rfl, hy⟩
      · rw [if_neg (by omega)] at hNE
        subst hNE
        rw [if_pos rfl] at hNZ
        subst hNZ
        go_wp2
        obtain ⟨hx, hy⟩ := HBx.out (.int .i64 nW) (.int .i64 nH) (.cells #[.int .i64 nW, .int .i64 nH] 27)
        obtain ⟨x0, x1⟩ := hx.at2
        exact bodyPost_ret (v := .tuple #[.agg #[.int .i64 nW, .int .i64 nH], .int .i64 0]) (by simp [results, Tryz.results10, go_sem, x0, x1]) rfl ⟨rfl, hy⟩
  · obtain ⟨e1, e2⟩ := HE2.out h1
    rw [e1, e2]
    clear HE2 e1 e2
    generalize gE1 s z col gap = R at *
    generalize gE0 s z col gap = R0 at *
    generalize eaC s 64 = r1 at *
    generalize szC z = r4 at *
    generalize nuC col 64 = r2 at *
    generalize nuC gap 16384 = r3 at *
    go_enter Tryz.func10, Tryz.ntmps10
    have HB0 : Hid (∀ o, Below w.heap.size w (w.alloc o)) := fun o => (Below.refl _ _).alloc (Nat.le_refl _) o
    go_wp2_with fail
    refine (H1.out _ (HV.out.1.below (HB0.out _))).mono ?_
    rintro e w1 ⟨rfl, rfl⟩
    go_wp2_with fail
    refine (H1m.out _ (HV.out.2.below (HB0.out _))).mono ?_
    rintro e w2 ⟨rfl, hb2⟩
    have HK : Hid (Bk w2 w.heap.size #[.int .i64 0, .int .i64 0] 27 ∧ Below w.heap.size w w2) := ⟨(Bk.new w _ _).below hb2, (HB0.out _).trans (hb2.mono (HB0.out _).size)⟩
    clear hb2 HB0
    go_wp2_with fail
    refine (H2.out _).mono ?_
    rintro e w3 ⟨rfl, rfl⟩
    go_wp2_with fail
    refine (H3.out _).mono ?_
    rintro e w4 ⟨rfl, rfl⟩
    go_wp2_with fail
    refine (HFi.out _ _ (is_lit _ [_, _, _, _] _)).mono ?_
    rintro e w5 ⟨rfl, hw5⟩
    have HK2 : Hid (Bk w5 w.heap.size #[.int .i64 0, .int .i64 0] 27 ∧ Below w.heap.size w w5) := by rw [hw5]; exact ⟨HK.out.1.alloc _, HK.out.2.alloc HK.out.2.size _⟩
    clear HK hw5 H1 H1m H2 H3 HFi
    obtain ⟨b0, b1⟩ := HK2.out
    obtain ⟨c0, c1⟩ := b0.at2
    have f0 := b0.frozen 0
    have f1 := b0.frozen 1
    have HP : Hid (Below w.heap.size w ((w5.setCell ⟨w.heap.size, 0, none⟩ (.int .i64 0)).setCell ⟨w.heap.size, 1, none⟩ (.int .i64 0))) := (b1.setCell (Nat.le_refl _) _).setCell (Nat.le_refl _) _
    clear HK2 b0 b1
    by_cases h0 : R0 = 0
    · have hE := HE1.out.1 h0
      clear HE1
      subst h0
      by_cases hl : z.length = s.length
      · rw [if_pos hl] at hE
        exact absurd hE h1
      · rw [if_neg hl] at hE
        subst hE
        have il : ¬ (z.length : Int) = s.length := by omega
        go_wp2
        exact bodyPost_ret (v := .tuple #[.agg #[.int .i64 0, .int .i64 0], .int .i64 110]) (by simp [results, Tryz.results10, go_sem, c0, c1]) rfl ⟨rfl, HP⟩
    · have hE := HE1.out.2 h0
      subst hE
      clear HE1
      go_wp2
      exact bodyPost_ret (v := .tuple #[.agg #[.int .i64 0, .int .i64 0], .int .i64 R]) (by simp [results, Tryz.results10, go_sem, c0, c1]) rfl ⟨rfl, HP⟩

end Go.Proofs.YthnhcphkpffkfaaGreat
