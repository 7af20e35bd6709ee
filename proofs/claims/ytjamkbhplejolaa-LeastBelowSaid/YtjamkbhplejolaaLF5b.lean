/-
  The document's Most.
-/
import Derived.Test.YtjamkbhplejolaaLF5
namespace Go.Proofs.Ytjamkbhplejolaa
open Go.RowKit

theorem cell_bk3 {w : World} {b : Nat} {x y z : Value} {t : TypeId} (h : w.heap[b]? = some (.cells #[x, y, z] t)) : ∀ (j : Nat) (u : Value), [x, y, z][j]? = some u → w.cell? ((⟨b, 0, none⟩ : Addr).add j) = some u := by
  intro j u hj
  rw [addr_plus, Nat.zero_add, Bk.cell h]
  simpa using hj
theorem one3 (a b c : Int) : ∀ u ∈ [Value.int .i64 a, .int .i64 b, .int .i64 c], u.oneCell' = true := by
  intro u hu
  simp at hu
  rcases hu with rfl | rfl | rfl <;> rfl

set_option maxRecDepth 10000 in
set_option maxHeartbeats 4000000 in
theorem rMost_any (n : Int) (L : List Bq) (most : Int) (v : Value) (w : World) (hv : BS w v L) :
    Calls Try.prog 24 #[.int .i64 n, v, .int .i64 most] w fun e w' => AnsI w (moL n L most) (moE n L most) e w' := by
  have HC : Hid (Calls Try.prog 25 #[.int .i64 n, v] w fun e w' => e = .returned (.int .i64 (chk n L)) ∧ Below w.heap.size w w') := rcheck_any n L v w hv
  by_cases h0 : chk n L = 0
  · obtain ⟨h1, h2, h3, h4⟩ := chk_zero h0
    obtain ⟨N, rfl⟩ : ∃ N : Nat, n = N := ⟨n.toNat, by omega⟩
    have hn : N ≤ 4096 := by omega
    have hL4 : L.length ≤ 4096 := h3
    rw [h0] at HC
    by_cases hm : most < 0 ∨ 1099511627776 < most
    · have HE : Hid (moE N L most = 2 ∧ moL N L most = []) := by
        have e : moE N L most = 2 := by unfold moE; rw [if_pos h0, if_pos hm]
        exact ⟨e, by unfold moL; rw [e]; rfl⟩
      rw [HE.out.1, HE.out.2]
      clear hv h0 h1 h2 h3 h4 HE
      rcases (show most < 0 ∨ (¬ most < 0 ∧ 1099511627776 < most) by omega) with hm1 | ⟨hm1, hm2⟩
      all_goals
        clear hm
        go_enter Try.func24, Try.ntmps24
        go_wp2_with fail
        refine HC.out.mono ?_
        rintro e w1 ⟨rfl, hb1⟩
        have H1 : Hid (Below w.heap.size w w1) := hb1
        clear hb1 HC
        go_wp2
        go_ret2
        exact ⟨_, rfl, OwI.nil _ _, H1.out⟩
    · have hm1 : ¬ most < 0 := by omega
      have hm2 : ¬ 1099511627776 < most := by omega
      have HV : Hid (BS w v L) := hv
      have hkT : ∀ q ∈ L.map trq, okQ (N : Int) q = true := fun q hq => by
        obtain ⟨p, hp, rfl⟩ := List.mem_map.1 hq
        rw [okQ_trq]; exact h4 p hp
      have HS : Hid (∀ W u, BS W u (L.map trq) → Calls Try.prog 13 #[.int .i64 N, u] W fun e w' => AnsI W (slL N (L.map trq)) (slE N (L.map trq)) e w') := fun W u h => by
        have q := rSolve_any N (L.map trq) u W h
        unfold solL solE at q
        rw [chk_trq, if_pos h0, if_pos h0, Int.toNat_natCast] at q
        exact q
      obtain ⟨i0, hi, hz0, hz1, hz2⟩ := info_parts info_bound
      have HI : Hid (Try.prog.info? 39 = some i0 ∧ i0.zero = some (.agg #[.int .i64 0, .int .i64 0, .int .i64 0]) ∧ i0.size = 3 ∧ i0.bytes = 24) := ⟨hi, hz0, hz1, hz2⟩
      clear hi hz0 hz1 hz2
      by_cases hs : slE N (L.map trq) = 0
      · have hE := moE_ok h0 hm (by rw [Int.toNat_natCast]; exact hs)
        have hL : slL N (L.map trq) = rowN N (moX N L) := by
          have hl : (rds (nat (L.map trq)) N rs0).l = none := by
            unfold slE at hs
            split at hs
            · next h => exact h
            · omega
          unfold slL moX
          rw [if_pos hl, Int.toNat_natCast]
        have hbd : ∀ v, 0 ≤ moX N L v ∧ moX N L v ≤ 17592186044416 := by
          unfold moX
          rw [Int.toNat_natCast]
          exact rds_bound hn (by simpa using h3) hkT
        rw [Int.toNat_natCast] at hE
        have HR : Hid ((moB N (moX N L) most = true → moE N L most = 0 ∧ moL N L most = rowN N (fun v => most - moX N L v)) ∧ (moB N (moX N L) most = false → moE N L most = 90 ∧ moL N L most = [])) := by
          constructor
          · intro hb
            rw [hb, if_pos rfl] at hE
            exact ⟨hE, by unfold moL; rw [if_pos hE, Int.toNat_natCast]⟩
          · intro hb
            rw [hb, if_neg (by decide)] at hE
            exact ⟨hE, by unfold moL; rw [hE]; rfl⟩
        rw [hL, hs] at HS
        generalize moE N L most = rE at *
        generalize moL N L most = rL at *
        have HBd : Hid (∀ v, 0 ≤ moX N L v ∧ moX N L v ≤ 17592186044416) := hbd
        generalize moX N L = x at *
        obtain ⟨oa, cap, rfl, hc, _⟩ := hv
        clear h0 h1 h2 h3 h4 hkT hE hs hL hbd hm
        go_enter Try.func24, Try.ntmps24
        go_wp2_with fail
        refine HC.out.mono ?_
        rintro e w1 ⟨rfl, hb1⟩
        have H1 : Hid (Below w.heap.size w w1) := hb1
        clear hb1 HC
        go_wp2_with fail
        obtain ⟨oa', cap', e', _, hg⟩ := HV.out.below H1.out
        injection e' with e1 _ e3
        subst e1 e3
        have HG : Hid (0 < L.length → ∃ g o, oa = some ⟨g, o, none⟩ ∧ g < w1.heap.size ∧ ∀ i (h : i < L.length), BqAt w1 g (o + i * 3) L[i]) := hg
        clear hg HV
        go_loopw [9, 10] (fun t i wr => ∃ k : Nat, i = .int .i64 k ∧ k ≤ L.length ∧ Hid (OwB w1.heap.size wr t ((L.take k).map trq) ∧ Below w1.heap.size w1 wr)) (fun _ i _ => L.length - (intOf i).toNat)
        case atStart => exact ⟨0, rfl, Nat.zero_le _, OwB.nil _ _, Below.refl _ _⟩
        case round =>
          obtain ⟨k, rfl, hk, HQ⟩ := hrel
          by_cases hlt : k < L.length
          · have ik : (k : Int) < L.length := by omega
            obtain ⟨g, o, rfl, hgl, hat⟩ := HG.out (by omega)
            have hx := (hat k hlt).below HQ.out.2 hgl
            obtain ⟨x0, x1, x2⟩ := hx
            have lg : g < wr.heap.size := Nat.lt_of_lt_of_le hgl HQ.out.2.size
            have Hlen : Hid (((L.take k).map trq).length = k) := by unfold Hid; simp; omega
            have hown : wr.ownsRow w1.heap.size 39 3 u9 k (flatQ ((L.take k).map trq)) := by have h := HQ.out.1; unfold OwB at h; rw [Hlen.out] at h; exact h
            obtain ⟨ot, ct, rfl, _, _⟩ := row_val hown
            have HO : Hid (wr.ownsRow w1.heap.size 39 3 (.slice ot k ct) k (flatQ ((L.take k).map trq)) ∧ Below w1.heap.size w1 wr) := ⟨hown, HQ.out.2⟩
            have HTk : Hid ((L.take (k + 1)).map trq = (L.take k).map trq ++ [trq L[k]]) := by unfold Hid; rw [← List.take_append_getElem hlt, List.map_append]; rfl
            clear HQ hat hown
            generalize L[k] = q at *
            go_wp2_with fail
            refine R4.wp_region_lit 17 1 2 (fun _ b => .slice (some ⟨b, 0, none⟩) 1 1) (fun _ => .cells #[.int .i64 q.b, .int .i64 q.a, .int .i64 q.f] 39) [48] (by kernel_rfl) (by kernel_rfl) rfl ?_ rfl ?_
            · intro k hk
              have hc : k = 0 := by omega
              subst hc; rfl
            apply Exists.intro
            refine ⟨fun bs ne => ?_, ?_, ?_⟩
            · have d0 := fun t : Gb wr bs => (t.below.cell (p := ⟨g, o + k * 3, none⟩) lg).trans x0
              have d1 := fun t : Gb wr bs => (t.below.cell (p := ⟨g, o + k * 3 + 1, none⟩) lg).trans x1
              have d2 := fun t : Gb wr bs => (t.below.cell (p := ⟨g, o + k * 3 + 2, none⟩) lg).trans x2
              simp only [List.take_succ_cons, List.take_zero]
              repeat (go_big_quiet_step (fail))
              exact wpQuiet_nil rfl
            · intro i h1 h2
              have hc : i = 17 := by omega
              subst hc
              exact ⟨_, rfl, rfl, fun _ => by kernel_rfl⟩
            intro bl wx hbl hlo _
            obtain ⟨q1, q2⟩ := hlo 17 (by omega) (by omega)
            simp only [R4.layL]
            generalize bl 17 = g0 at *
            clear hlo x0 x1 x2 lg
            have o5 := row_below HO.out.1 hbl
            have b5 := HO.out.2.trans (hbl.mono HO.out.2.size)
            obtain ⟨hi, hz0, hz1, hz2⟩ := HI.out
            refine wpAny_one 18 (by kernel_rfl) rfl ?_
            intro K hK
            refine step_append_lies wx (by rfl) _ _ 22 (by rfl) w1.heap.size 39 i0 (.agg #[.int .i64 0, .int .i64 0, .int .i64 0]) 3 24 Try.underlying22 hi hz0 hz1 hz2 rfl (by decide) (.slice ot k ct) k (flatQ ((L.take k).map trq)) (by rfl) o5 ⟨g0, 0, none⟩ 1 1 [.int .i64 q.b, .int .i64 q.a, .int .i64 q.f] (by rfl) rfl (cell_bk3 q2) (one3 _ _ _) (by decide) (by unfold maxLen; omega) (by omega) b5.size wx.heap.size rfl ?_
            intro h0 cap0 X1 hown hgrow _ _
            have HRel : Hid (OwB w1.heap.size X1 (.slice (some ⟨h0, 0, none⟩) (k + 1) cap0) ((L.take (k + 1)).map trq) ∧ Below w1.heap.size w1 X1) := by
              refine ⟨?_, app_below b5 o5 (Nat.le_refl _) hgrow⟩
              unfold OwB
              rw [HTk.out, List.length_append, flatQ_app, Hlen.out]
              exact hown
            clear hown hgrow o5 b5 q1 q2 hbl hi hz0 hz1 hz2
            refine hK _ _ ?_
            clear hK K
            refine wpAny_one 19 (by kernel_rfl) rfl ?_
            intro K hK
            go_simp
            refine hK _ _ ?_
            clear hK K
            refine wpAny_done (by kernel_rfl) ?_ _
            go_wp2
            exact ⟨⟨k + 1, by go_num, by omega, HRel⟩, by simp [intOf]; omega⟩
          · obtain rfl : k = L.length := by omega
            have H2b : Hid (Below w.heap.size w wr) := H1.out.trans (HQ.out.2.mono H1.out.size)
            have HU : Hid (BS wr u9 (L.map trq)) := by have h := HQ.out.1.bs; rw [List.take_length] at h; exact h
            clear HQ H1
            go_wp2_with fail
            refine (HS.out _ _ HU.out).mono ?_
            rintro e w3 ⟨y, rfl, H3⟩
            have H3b : Hid (MoI w N x most 0 y w3) := by
              refine ⟨?_, fun j hj => absurd hj (Nat.not_lt_zero j), H2b.out.trans (H3.out.2.mono H2b.out.size)⟩
              rw [mid_zero]
              have h := H3.out.1.weaken H2b.out.size
              unfold OwI at h
              rw [rowN_len] at h
              exact h
            clear H3 H2b HU HS
            obtain ⟨oy, cy, rfl, hcy, hgy⟩ := row_val H3b.out.1
            have HY : Hid (0 < N → ∃ g, oy = some ⟨g, 0, none⟩ ∧ w.heap.size ≤ g) := fun h => by obtain ⟨g, e, h1, _⟩ := hgy h; exact ⟨g, e, h1⟩
            clear hgy
            go_wp2_with fail
            go_loopw [12] (fun i wr => ∃ k : Nat, i = .int .i64 k ∧ k ≤ N ∧ Hid (MoI w N x most k (.slice oy N cy) wr)) (fun i _ => N - (intOf i).toNat)
            case atStart => exact ⟨0, rfl, Nat.zero_le _, H3b⟩
            case round =>
              obtain ⟨k, rfl, hk, HM⟩ := hrel
              clear H3b
              by_cases hlt : k < N
              · have ik : (k : Int) < N := by omega
                obtain ⟨g, rfl, hgl⟩ := HY.out (by omega)
                obtain ⟨y0, y1⟩ := HM.out.facts hlt
                obtain ⟨b1, b2⟩ := HBd.out k
                by_cases hx : most < x k
                · have HF : Hid (rE = 90 ∧ rL = [] ∧ Below w.heap.size w wr) := by
                    obtain ⟨e1, e2⟩ := HR.out.2 (moB_no hlt hx)
                    exact ⟨e1, e2, HM.out.2.2⟩
                  clear HM
                  have hng : most - x k < 0 := by omega
                  generalize x k = xk at *
                  go_wp2
                  go_ret2
                  exact ⟨_, by rw [HF.out.1]; rfl, by rw [HF.out.2.1]; exact OwI.nil _ _, HF.out.2.2.setCell (p := ⟨g, k, none⟩) hgl _⟩
                · have HN : Hid (MoI w N x most (k + 1) (.slice (some ⟨g, 0, none⟩) N cy) (wr.setCell ⟨g, k, none⟩ (.int .i64 (most - x k)))) := HM.out.step hgl (by omega)
                  have hng : ¬ most - x k < 0 := by omega
                  clear HM
                  generalize x k = xk at *
                  go_wp2
                  exact ⟨⟨k + 1, by go_num, by omega, HN⟩, by simp [intOf]; omega⟩
              · obtain rfl : k = N := by omega
                have HF : Hid (rE = 0 ∧ OwI w.heap.size wr (.slice oy k cy) rL ∧ Below w.heap.size w wr) := by
                  obtain ⟨e1, e2⟩ := HR.out.1 (moB_yes HM.out.2.1)
                  refine ⟨e1, ?_, HM.out.2.2⟩
                  rw [e2]
                  have h := HM.out.1
                  rw [mid_end] at h
                  unfold OwI
                  rw [rowN_len]
                  exact h
                clear HM
                go_wp2
                go_ret2
                exact ⟨_, by rw [HF.out.1]; rfl, HF.out.2⟩
      · have HE : Hid (moE N L most = slE N (L.map trq) ∧ moL N L most = []) := by
          have e : moE N L most = slE N (L.map trq) := by unfold moE; rw [if_pos h0, if_neg hm, Int.toNat_natCast, if_neg hs]
          exact ⟨e, by unfold moL; rw [e, if_neg hs]⟩
        rw [HE.out.1, HE.out.2]
        have h9 : (slE N (L.map trq) != 0) = true := by simp [hs]
        generalize slE N (L.map trq) = z at *
        generalize slL N (L.map trq) = xs at *
        obtain ⟨oa, cap, rfl, hc, _⟩ := hv
        clear h0 h1 h2 h3 h4 HE hkT hs hm
        go_enter Try.func24, Try.ntmps24
        go_wp2_with fail
        refine HC.out.mono ?_
        rintro e w1 ⟨rfl, hb1⟩
        have H1 : Hid (Below w.heap.size w w1) := hb1
        clear hb1 HC
        go_wp2_with fail
        obtain ⟨oa', cap', e', _, hg⟩ := HV.out.below H1.out
        injection e' with e1 _ e3
        subst e1 e3
        have HG : Hid (0 < L.length → ∃ g o, oa = some ⟨g, o, none⟩ ∧ g < w1.heap.size ∧ ∀ i (h : i < L.length), BqAt w1 g (o + i * 3) L[i]) := hg
        clear hg HV
        go_loopw [9, 10] (fun t i wr => ∃ k : Nat, i = .int .i64 k ∧ k ≤ L.length ∧ Hid (OwB w1.heap.size wr t ((L.take k).map trq) ∧ Below w1.heap.size w1 wr)) (fun _ i _ => L.length - (intOf i).toNat)
        case atStart => exact ⟨0, rfl, Nat.zero_le _, OwB.nil _ _, Below.refl _ _⟩
        case round =>
          obtain ⟨k, rfl, hk, HQ⟩ := hrel
          by_cases hlt : k < L.length
          · have ik : (k : Int) < L.length := by omega
            obtain ⟨g, o, rfl, hgl, hat⟩ := HG.out (by omega)
            have hx := (hat k hlt).below HQ.out.2 hgl
            obtain ⟨x0, x1, x2⟩ := hx
            have lg : g < wr.heap.size := Nat.lt_of_lt_of_le hgl HQ.out.2.size
            have Hlen : Hid (((L.take k).map trq).length = k) := by unfold Hid; simp; omega
            have hown : wr.ownsRow w1.heap.size 39 3 u9 k (flatQ ((L.take k).map trq)) := by have h := HQ.out.1; unfold OwB at h; rw [Hlen.out] at h; exact h
            obtain ⟨ot, ct, rfl, _, _⟩ := row_val hown
            have HO : Hid (wr.ownsRow w1.heap.size 39 3 (.slice ot k ct) k (flatQ ((L.take k).map trq)) ∧ Below w1.heap.size w1 wr) := ⟨hown, HQ.out.2⟩
            have HTk : Hid ((L.take (k + 1)).map trq = (L.take k).map trq ++ [trq L[k]]) := by unfold Hid; rw [← List.take_append_getElem hlt, List.map_append]; rfl
            clear HQ hat hown
            generalize L[k] = q at *
            go_wp2_with fail
            refine R4.wp_region_lit 17 1 2 (fun _ b => .slice (some ⟨b, 0, none⟩) 1 1) (fun _ => .cells #[.int .i64 q.b, .int .i64 q.a, .int .i64 q.f] 39) [48] (by kernel_rfl) (by kernel_rfl) rfl ?_ rfl ?_
            · intro k hk
              have hc : k = 0 := by omega
              subst hc; rfl
            apply Exists.intro
            refine ⟨fun bs ne => ?_, ?_, ?_⟩
            · have d0 := fun t : Gb wr bs => (t.below.cell (p := ⟨g, o + k * 3, none⟩) lg).trans x0
              have d1 := fun t : Gb wr bs => (t.below.cell (p := ⟨g, o + k * 3 + 1, none⟩) lg).trans x1
              have d2 := fun t : Gb wr bs => (t.below.cell (p := ⟨g, o + k * 3 + 2, none⟩) lg).trans x2
              simp only [List.take_succ_cons, List.take_zero]
              repeat (go_big_quiet_step (fail))
              exact wpQuiet_nil rfl
            · intro i h1 h2
              have hc : i = 17 := by omega
              subst hc
              exact ⟨_, rfl, rfl, fun _ => by kernel_rfl⟩
            intro bl wx hbl hlo _
            obtain ⟨q1, q2⟩ := hlo 17 (by omega) (by omega)
            simp only [R4.layL]
            generalize bl 17 = g0 at *
            clear hlo x0 x1 x2 lg
            have o5 := row_below HO.out.1 hbl
            have b5 := HO.out.2.trans (hbl.mono HO.out.2.size)
            obtain ⟨hi, hz0, hz1, hz2⟩ := HI.out
            refine wpAny_one 18 (by kernel_rfl) rfl ?_
            intro K hK
            refine step_append_lies wx (by rfl) _ _ 22 (by rfl) w1.heap.size 39 i0 (.agg #[.int .i64 0, .int .i64 0, .int .i64 0]) 3 24 Try.underlying22 hi hz0 hz1 hz2 rfl (by decide) (.slice ot k ct) k (flatQ ((L.take k).map trq)) (by rfl) o5 ⟨g0, 0, none⟩ 1 1 [.int .i64 q.b, .int .i64 q.a, .int .i64 q.f] (by rfl) rfl (cell_bk3 q2) (one3 _ _ _) (by decide) (by unfold maxLen; omega) (by omega) b5.size wx.heap.size rfl ?_
            intro h0 cap0 X1 hown hgrow _ _
            have HRel : Hid (OwB w1.heap.size X1 (.slice (some ⟨h0, 0, none⟩) (k + 1) cap0) ((L.take (k + 1)).map trq) ∧ Below w1.heap.size w1 X1) := by
              refine ⟨?_, app_below b5 o5 (Nat.le_refl _) hgrow⟩
              unfold OwB
              rw [HTk.out, List.length_append, flatQ_app, Hlen.out]
              exact hown
            clear hown hgrow o5 b5 q1 q2 hbl hi hz0 hz1 hz2
            refine hK _ _ ?_
            clear hK K
            refine wpAny_one 19 (by kernel_rfl) rfl ?_
            intro K hK
            go_simp
            refine hK _ _ ?_
            clear hK K
            refine wpAny_done (by kernel_rfl) ?_ _
            go_wp2
            exact ⟨⟨k + 1, by go_num, by omega, HRel⟩, by simp [intOf]; omega⟩
          · obtain rfl : k = L.length := by omega
            have H2b : Hid (Below w.heap.size w wr) := H1.out.trans (HQ.out.2.mono H1.out.size)
            have HU : Hid (BS wr u9 (L.map trq)) := by have h := HQ.out.1.bs; rw [List.take_length] at h; exact h
            clear HQ H1
            go_wp2_with fail
            refine (HS.out _ _ HU.out).mono ?_
            rintro e w3 ⟨y, rfl, H3⟩
            have H3b : Hid (Below w.heap.size w w3) := H2b.out.trans (H3.out.2.mono H2b.out.size)
            clear H3 H2b HU HS
            go_wp2
            go_ret2
            exact ⟨_, rfl, OwI.nil _ _, H3b.out⟩
  · have HE : Hid (moE n L most = chk n L ∧ moL n L most = []) := by
      have e : moE n L most = chk n L := by unfold moE; rw [if_neg h0]
      exact ⟨e, by unfold moL; rw [e, if_neg h0]⟩
    rw [HE.out.1, HE.out.2]
    have h1 : (chk n L != 0) = true := by simp [h0]
    generalize chk n L = z at *
    clear h0 hv HE
    go_enter Try.func24, Try.ntmps24
    go_wp2_with fail
    refine HC.out.mono ?_
    rintro e w1 ⟨rfl, hb1⟩
    have H1 : Hid (Below w.heap.size w w1) := hb1
    clear hb1
    go_wp2
    go_ret2
    exact ⟨_, rfl, OwI.nil _ _, H1.out⟩

end Go.Proofs.Ytjamkbhplejolaa
