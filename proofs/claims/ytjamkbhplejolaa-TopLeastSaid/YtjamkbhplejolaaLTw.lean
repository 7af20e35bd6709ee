/-
  The walk of TopLeast.
-/
import Derived.Test.YtjamkbhplejolaaLT
namespace Go.Proofs.Ytjamkbhplejolaa
open Go.RowKit

def lit3 : List Bq := [⟨0, 1, 3⟩]
theorem lit_3 : solL 2 lit3 = [0, 3] ∧ solE 2 lit3 = 0 := by decide +kernel
theorem kep_kps {xs : List Int} {L : List Bq} (h : kepB xs L = true) : Kps (nat L) (atF xs) ∧ ∀ i, 0 ≤ atF xs i := by
  unfold kepB at h
  rw [Bool.and_eq_true] at h
  refine ⟨fun b hb => ?_, fun i => ?_⟩
  · have := List.all_eq_true.1 h.2 b hb
    unfold kbB at this
    have := of_decide_eq_true this
    omega
  · by_cases hi : i < xs.length
    · have := List.all_eq_true.1 h.1 xs[i] (List.getElem_mem hi)
      unfold inB at this
      simp only [Bool.and_eq_true, decide_eq_true_eq] at this
      simp [atF, hi]
      omega
    · simp [atF, hi]
theorem kps_kep {N : Nat} {L : List Bq} {x : Nat → Int} (hk : ∀ q ∈ L, okQ N q = true) (h : Kps (nat L) x) (hb : ∀ v, 0 ≤ x v ∧ x v ≤ 17592186044416) : kepB (rowN N x) L = true := by
  unfold kepB
  rw [Bool.and_eq_true, List.all_eq_true, List.all_eq_true]
  refine ⟨fun z hz => ?_, fun b hbm => ?_⟩
  · unfold rowN at hz
    obtain ⟨v, _, rfl⟩ := List.mem_map.1 hz
    have := hb v
    unfold inB
    simp only [Bool.and_eq_true, decide_eq_true_eq]
    omega
  · have hab := nat_abt hk b hbm
    have := h b hbm
    unfold kbB
    have e : ∀ v, v < N → atF (rowN N x) v = x v := fun v hv => by
      unfold atF
      rw [List.getD_eq_getElem?_getD, rowN_at x hv]
      rfl
    rw [e _ hab.1, e _ hab.2]
    exact decide_eq_true (by omega)

set_option maxRecDepth 10000 in
set_option maxHeartbeats 8000000 in
theorem top_walk (n : Int) (L : List Bq) (xs : List Int) (v u : Value) (w : World) (hv : BS w v L) (hu : IS w u xs) :
    Calls Try.prog 8 #[.int .i64 n, v, u] w fun e w' => e = .returned (.bool true) ∧ Below w.heap.size w w' := by
  have A1 : Hid (∀ W y, BS W y lit3 → Calls Try.prog 12 #[.int .i64 2, y] W fun e w' => AnsI W [0, 3] 0 e w') := fun W y h => by
    have q := Solve_any 2 lit3 y W h
    rw [lit_3.1, lit_3.2] at q
    exact q
  have B1 : Hid (BS (w.alloc (.cells #[.int .i64 0, .int .i64 1, .int .i64 3] 39)) (.slice (some ⟨w.heap.size, 0, none⟩) 1 1) lit3) := bs_new w lit3 _ rfl
  have HV : Hid (BS w v L ∧ IS w u xs) := ⟨hv, hu⟩
  have HC : Hid (∀ W, Below w.heap.size w W → Calls Try.prog 25 #[.int .i64 n, v] W fun e w' => e = .returned (.int .i64 (chk n L)) ∧ Below W.heap.size W w') := fun W h => rcheck_any n L v W (hv.below h)
  obtain ⟨oa, cap, rfl, _, _⟩ := id hv
  obtain ⟨ox, cx, rfl, _, _⟩ := id hu
  by_cases h0 : chk n L = 0
  · obtain ⟨h1, h2, h3, h4⟩ := chk_zero h0
    obtain ⟨N, rfl⟩ : ∃ N : Nat, n = N := ⟨n.toNat, by omega⟩
    have hn : N ≤ 4096 := by omega
    rw [h0] at HC
    have HS : Hid (∀ W, Below w.heap.size w W → Calls Try.prog 12 #[.int .i64 N, .slice oa L.length cap] W fun e w' => AnsI W (slL N L) (slE N L) e w') := fun W h => by
      have q := Solve_any N L _ W (hv.below h)
      unfold solL solE at q
      rw [if_pos h0, if_pos h0, Int.toNat_natCast] at q
      exact q
    have HL : Hid (∀ W, Below w.heap.size w W → Calls Try.prog 14 #[.int .i64 N, .slice oa L.length cap] W fun e w' => AnsI W (lopL N L) 0 e w') := fun W h => by
      have q := Loop_any N L _ W (hv.below h)
      unfold LopL at q
      rw [if_pos h0, h0, Int.toNat_natCast] at q
      exact q
    have HKe : Hid (∀ W ys y, Below w.heap.size w W → ys.length = N → IS W y ys → Calls Try.prog 26 #[y, .slice oa L.length cap] W fun e w' => e = .returned (.bool (kepB ys L)) ∧ Below W.heap.size W w') := fun W ys y h hl hy => keeps_any ys L y _ W hy (hv.below h) (by rw [hl]; exact h4) (by rw [hl]; exact hn) h3
    have hbd := rds_bound hn h3 h4
    have hab := nat_abt h4
    cases hl : (rds (nat L) N rs0).l with
    | none =>
      have hN : 0 < N → Kps (nat L) (rds (nat L) N rs0).x := fun h => rds_kept h hl
      have hKx : Kps (nat L) (rds (nat L) N rs0).x := by
        rcases Nat.eq_zero_or_pos N with h | h
        · intro b hb
          have := (hab b hb).1
          omega
        · exact hN h
      have hE : slL N L = rowN N (rds (nat L) N rs0).x ∧ slE N L = 0 ∧ lopL N L = [] := by
        unfold slL slE lopL
        rw [if_pos hl, if_pos hl, hl]
        exact ⟨rfl, rfl, rfl⟩
      have hkx := kps_kep h4 hKx hbd
      rw [hE.1, hE.2.1] at HS
      rw [hE.2.2] at HL
      have HLe : Hid (kepB xs L = true → ∀ i, (rds (nat L) N rs0).x i ≤ atF xs i) := fun h => by
        obtain ⟨k1, k2⟩ := kep_kps h
        exact rds_le k1 (s := rs0) k2
      have HKx : Hid (kepB (rowN N (rds (nat L) N rs0).x) L = true) := hkx
      generalize (rds (nat L) N rs0).x = x at *
      have Hlen : Hid ((rowN N x).length = N) := rowN_len N x
      clear hE hkx hN hKx hl hab h1 h2 h0 hv hu hbd
      have iN : (0 : Int) ≤ N := by omega
      by_cases hx : xs.length = N
      · subst hx
        generalize hkb : kepB xs L = kb at *
        have Hkb : Hid (kepB xs L = kb) := hkb
        clear hkb
        go_enter Try.func8, Try.ntmps8
        go_wp2_with fail
        refine (A1.out _ _ B1.out).mono ?_
        rintro e w1 ⟨vk, rfl, H1⟩
        obtain ⟨ok, ck, rfl, hck, hgk⟩ := H1.out.1.is
        obtain ⟨gk, oo, rfl, hgkl, hatk⟩ := hgk (by decide)
        have k0 := hatk 0 (by decide)
        have k1 := hatk 1 (by decide)
        simp only [List.getElem_cons_zero, List.getElem_cons_succ, Nat.add_zero, List.length_cons, List.length_nil, Nat.zero_add] at k0 k1 hck ⊢
        have F1 : Hid (Below w.heap.size w w1) := bel_tr (bel_al w _) H1.out.2
        clear H1 hgk hatk B1 A1
        go_wp2_with fail
        refine (HC.out _ F1.out).mono ?_
        rintro e w2 ⟨rfl, hb2⟩
        have F2 : Hid (Below w.heap.size w w2) := bel_tr F1.out hb2
        clear hb2 HC F1 k0 k1
        go_wp2_with fail
        refine (HS.out _ F2.out).mono ?_
        rintro e w3 ⟨vx, rfl, H3⟩
        have F3 : Hid (Below w.heap.size w w3 ∧ IS w3 vx (rowN xs.length x)) := ⟨bel_tr F2.out H3.out.2, H3.out.1.is⟩
        clear H3 HS F2
        go_wp2_with fail
        refine (HL.out _ F3.out.1).mono ?_
        rintro e w4 ⟨vl, rfl, H4⟩
        have F4 : Hid (Below w.heap.size w w4 ∧ IS w4 vx (rowN xs.length x)) := ⟨bel_tr F3.out.1 H4.out.2, F3.out.2.below H4.out.2⟩
        obtain ⟨ol, cl, rfl, _, _⟩ := H4.out.1.is
        clear H4 HL F3
        go_wp2_with fail
        refine (HKe.out _ xs _ F4.out.1 rfl (HV.out.2.below F4.out.1)).mono ?_
        rintro e w5 ⟨rfl, hb5⟩
        have F5 : Hid (Below w.heap.size w w5 ∧ IS w5 vx (rowN xs.length x)) := ⟨bel_tr F4.out.1 hb5, F4.out.2.below hb5⟩
        clear hb5 F4
        obtain ⟨ovx, cvx, rfl, hcvx, hgvx⟩ := is_row F5.out.2
        rw [Hkb.out]
        have hll : (([] : List Int).length : Int) = 0 := rfl
        go_wp2_with fail
        refine (HKe.out _ (rowN xs.length x) _ F5.out.1 Hlen.out F5.out.2).mono ?_
        rintro e w6 ⟨rfl, hb6⟩
        rw [HKx.out]
        have F6 : Hid (Below w.heap.size w w6 ∧ IS w6 (.slice ovx xs.length cvx) (rowN xs.length x)) := ⟨bel_tr F5.out.1 hb6, F5.out.2.below hb6⟩
        clear hb6 F5 hgvx
        obtain ⟨oa2, ca2, e2, _, hgx⟩ := is_at (HV.out.2.below F6.out.1)
        injection e2 with e3 _ e4
        subst e3 e4
        obtain ⟨ov2, cv2, e5, _, hgv⟩ := is_row F6.out.2
        injection e5 with e6 _ e7
        subst e6 e7
        have HX : Hid ((0 < xs.length → ∃ g o, ox = some ⟨g, o, none⟩ ∧ g < w6.heap.size ∧ ∀ i, i < xs.length → w6.cell? ⟨g, o + i, none⟩ = some (.int .i64 (atF xs i))) ∧ (0 < xs.length → ∃ g o, ovx = some ⟨g, o, none⟩ ∧ g < w6.heap.size ∧ ∀ i, i < xs.length → w6.cell? ⟨g, o + i, none⟩ = some (.int .i64 (x i)))) := ⟨hgx, hgv⟩
        clear hgx hgv
        go_wp2_with fail
        go_loopw [14] (fun i wr => ∃ k : Nat, i = .int .i64 k ∧ k ≤ xs.length ∧ Hid (Below w6.heap.size w6 wr)) (fun i _ => xs.length - (intOf i).toNat)
        case atStart => exact ⟨0, rfl, Nat.zero_le _, Below.refl _ _⟩
        case round =>
          obtain ⟨k, rfl, hk, HQ⟩ := hrel
          cases kb with
          | false =>
            have HF : Hid (Below w.heap.size w wr) := bel_tr F6.out.1 HQ.out
            clear HQ
            go_wp2
            go_ret
            exact ⟨rfl, HF.out⟩
          | true =>
            by_cases hlt : k < xs.length
            · have ik : (k : Int) < xs.length := by omega
              obtain ⟨gx, o1, rfl, hgx1, hgx2⟩ := HX.out.1 (by omega)
              obtain ⟨gv, o2, rfl, hgv1, hgv2⟩ := HX.out.2 (by omega)
              have c1 : wr.cell? ⟨gx, o1 + k, none⟩ = some (.int .i64 (atF xs k)) := (HQ.out.cell (p := ⟨gx, o1 + k, none⟩) hgx1).trans (hgx2 k (by omega))
              have c2 : wr.cell? ⟨gv, o2 + k, none⟩ = some (.int .i64 (x k)) := (HQ.out.cell (p := ⟨gv, o2 + k, none⟩) hgv1).trans (hgv2 k hlt)
              have hle := HLe.out rfl k
              have hgt : ¬ atF xs k < x k := by omega
              have HW : Hid (∀ m, Below w6.heap.size w6 (wr.drewN m)) := fun m => below_drewN HQ.out
              generalize atF xs k = xa at *
              generalize x k = xk at *
              clear hgx2 hgv2 HQ hle
              go_wp2_with fail
              go_quiet (fail)
              go_wp2
              exact ⟨⟨k + 1, by go_num, by omega, HW.out _⟩, by simp [intOf]; omega⟩
            · have ik : ¬ (k : Int) < xs.length := by omega
              have HF : Hid (Below w.heap.size w wr) := bel_tr F6.out.1 HQ.out
              clear HQ
              go_wp2
              go_ret
              exact ⟨rfl, HF.out⟩
      · have ixN : ¬ (xs.length : Int) = N := by omega
        go_enter Try.func8, Try.ntmps8
        go_wp2_with fail
        refine (A1.out _ _ B1.out).mono ?_
        rintro e w1 ⟨vk, rfl, H1⟩
        obtain ⟨ok, ck, rfl, hck, hgk⟩ := H1.out.1.is
        obtain ⟨gk, oo, rfl, hgkl, hatk⟩ := hgk (by decide)
        have k0 := hatk 0 (by decide)
        have k1 := hatk 1 (by decide)
        simp only [List.getElem_cons_zero, List.getElem_cons_succ, Nat.add_zero, List.length_cons, List.length_nil, Nat.zero_add] at k0 k1 hck ⊢
        have F1 : Hid (Below w.heap.size w w1) := bel_tr (bel_al w _) H1.out.2
        clear H1 hgk hatk B1 A1
        go_wp2_with fail
        refine (HC.out _ F1.out).mono ?_
        rintro e w2 ⟨rfl, hb2⟩
        have F2 : Hid (Below w.heap.size w w2) := bel_tr F1.out hb2
        clear hb2 HC F1 k0 k1
        go_wp2_with fail
        refine (HS.out _ F2.out).mono ?_
        rintro e w3 ⟨vx, rfl, H3⟩
        have F3 : Hid (Below w.heap.size w w3 ∧ IS w3 vx (rowN N x)) := ⟨bel_tr F2.out H3.out.2, H3.out.1.is⟩
        clear H3 HS F2
        go_wp2_with fail
        refine (HL.out _ F3.out.1).mono ?_
        rintro e w4 ⟨vl, rfl, H4⟩
        have F4 : Hid (Below w.heap.size w w4 ∧ IS w4 vx (rowN N x)) := ⟨bel_tr F3.out.1 H4.out.2, F3.out.2.below H4.out.2⟩
        obtain ⟨ol, cl, rfl, _, _⟩ := H4.out.1.is
        clear H4 HL F3
        obtain ⟨ovx, cvx, rfl, hcvx, hgvx⟩ := is_row F4.out.2
        have hll : (([] : List Int).length : Int) = 0 := rfl
        go_wp2_with fail
        refine (HKe.out _ (rowN N x) _ F4.out.1 Hlen.out F4.out.2).mono ?_
        rintro e w6 ⟨rfl, hb6⟩
        rw [HKx.out]
        have F6 : Hid (Below w.heap.size w w6) := bel_tr F4.out.1 hb6
        clear hb6 F4 hgvx
        go_wp2_with fail
        go_loopw [14] (fun i wr => ∃ k : Nat, i = .int .i64 k ∧ Hid (Below w6.heap.size w6 wr)) (fun i _ => 0)
        case atStart => exact ⟨0, rfl, Below.refl _ _⟩
        case round =>
          obtain ⟨k, rfl, HQ⟩ := hrel
          have HF : Hid (Below w.heap.size w wr) := bel_tr F6.out HQ.out
          clear HQ
          go_wp2
          go_ret
          exact ⟨rfl, HF.out⟩
    | some vl =>
      obtain ⟨hvl, hN⟩ := last_lt hab hl
      have hnk := none_keep hab hl hN
      have hE : slL N L = [] ∧ slE N L = 90 ∧ lopL N L = toI (rotN (bakL (nat L) (rds (nat L) N rs0) N vl).reverse) := by
        unfold slL slE lopL
        rw [if_neg (by rw [hl]; simp), if_neg (by rw [hl]; simp), hl]
        exact ⟨rfl, rfl, rfl⟩
      have hnice : Nice N (nat L) (rotN (bakL (nat L) (rds (nat L) N rs0) N vl).reverse) := by
        unfold bakL
        exact lop_nice hab (lpf_of hab hl hN)
      rw [hE.1, hE.2.1] at HS
      rw [hE.2.2] at HL
      generalize rotN (bakL (nat L) (rds (nat L) N rs0) N vl).reverse = R at *
      have HT : Hid (∀ W y, Below w.heap.size w W → IS W y (toI R) → Calls Try.prog 27 #[y, .slice oa L.length cap] W fun e w' => e = .returned (.bool true) ∧ Below W.heap.size W w') := fun W y h hy => turns_any N R L y _ W hy (hv.below h) h4 hn h3 hnice
      have hkf : kepB xs L = false := by
        cases e : kepB xs L with
        | false => rfl
        | true => exact absurd (kep_kps e).1 (hnk _)
      have Hkf : Hid (kepB xs L = false) := hkf
      clear hE hnice hl hab h1 h2 h0 hv hu hbd hnk hkf
      have iN : (0 : Int) ≤ N := by omega
      by_cases hx : xs.length = N
      · subst hx
        go_enter Try.func8, Try.ntmps8
        go_wp2_with fail
        refine (A1.out _ _ B1.out).mono ?_
        rintro e w1 ⟨vk, rfl, H1⟩
        obtain ⟨ok, ck, rfl, hck, hgk⟩ := H1.out.1.is
        obtain ⟨gk, oo, rfl, hgkl, hatk⟩ := hgk (by decide)
        have k0 := hatk 0 (by decide)
        have k1 := hatk 1 (by decide)
        simp only [List.getElem_cons_zero, List.getElem_cons_succ, Nat.add_zero, List.length_cons, List.length_nil, Nat.zero_add] at k0 k1 hck ⊢
        have F1 : Hid (Below w.heap.size w w1) := bel_tr (bel_al w _) H1.out.2
        clear H1 hgk hatk B1 A1
        go_wp2_with fail
        refine (HC.out _ F1.out).mono ?_
        rintro e w2 ⟨rfl, hb2⟩
        have F2 : Hid (Below w.heap.size w w2) := bel_tr F1.out hb2
        clear hb2 HC F1 k0 k1
        go_wp2_with fail
        refine (HS.out _ F2.out).mono ?_
        rintro e w3 ⟨vx, rfl, H3⟩
        have F3 : Hid (Below w.heap.size w w3) := bel_tr F2.out H3.out.2
        obtain ⟨ovx, cvx, rfl, _, _⟩ := H3.out.1.is
        clear H3 HS F2
        go_wp2_with fail
        refine (HL.out _ F3.out).mono ?_
        rintro e w4 ⟨vl, rfl, H4⟩
        have F4 : Hid (Below w.heap.size w w4 ∧ IS w4 vl (toI R)) := ⟨bel_tr F3.out H4.out.2, H4.out.1.is⟩
        clear H4 HL F3
        go_wp2_with fail
        refine (HKe.out _ xs _ F4.out.1 rfl (HV.out.2.below F4.out.1)).mono ?_
        rintro e w5 ⟨rfl, hb5⟩
        rw [Hkf.out]
        have F5 : Hid (Below w.heap.size w w5 ∧ IS w5 vl (toI R)) := ⟨bel_tr F4.out.1 hb5, F4.out.2.below hb5⟩
        clear hb5 F4
        have hll : (([] : List Int).length : Int) = 0 := rfl
        go_wp2_with fail
        refine (HT.out _ _ F5.out.1 F5.out.2).mono ?_
        rintro e w6 ⟨rfl, hb6⟩
        have F6 : Hid (Below w.heap.size w w6) := bel_tr F5.out.1 hb6
        clear hb6 F5
        go_wp2
        go_ret
        exact ⟨rfl, F6.out⟩
      · have ixN : ¬ (xs.length : Int) = N := by omega
        go_enter Try.func8, Try.ntmps8
        go_wp2_with fail
        refine (A1.out _ _ B1.out).mono ?_
        rintro e w1 ⟨vk, rfl, H1⟩
        obtain ⟨ok, ck, rfl, hck, hgk⟩ := H1.out.1.is
        obtain ⟨gk, oo, rfl, hgkl, hatk⟩ := hgk (by decide)
        have k0 := hatk 0 (by decide)
        have k1 := hatk 1 (by decide)
        simp only [List.getElem_cons_zero, List.getElem_cons_succ, Nat.add_zero, List.length_cons, List.length_nil, Nat.zero_add] at k0 k1 hck ⊢
        have F1 : Hid (Below w.heap.size w w1) := bel_tr (bel_al w _) H1.out.2
        clear H1 hgk hatk B1 A1
        go_wp2_with fail
        refine (HC.out _ F1.out).mono ?_
        rintro e w2 ⟨rfl, hb2⟩
        have F2 : Hid (Below w.heap.size w w2) := bel_tr F1.out hb2
        clear hb2 HC F1 k0 k1
        go_wp2_with fail
        refine (HS.out _ F2.out).mono ?_
        rintro e w3 ⟨vx, rfl, H3⟩
        have F3 : Hid (Below w.heap.size w w3) := bel_tr F2.out H3.out.2
        obtain ⟨ovx, cvx, rfl, _, _⟩ := H3.out.1.is
        clear H3 HS F2
        go_wp2_with fail
        refine (HL.out _ F3.out).mono ?_
        rintro e w4 ⟨vl, rfl, H4⟩
        have F4 : Hid (Below w.heap.size w w4 ∧ IS w4 vl (toI R)) := ⟨bel_tr F3.out H4.out.2, H4.out.1.is⟩
        clear H4 HL F3
        have hll : (([] : List Int).length : Int) = 0 := rfl
        go_wp2_with fail
        refine (HT.out _ _ F4.out.1 F4.out.2).mono ?_
        rintro e w6 ⟨rfl, hb6⟩
        have F6 : Hid (Below w.heap.size w w6) := bel_tr F4.out.1 hb6
        clear hb6 F4
        go_wp2
        go_ret
        exact ⟨rfl, F6.out⟩
  · have h9 : (chk n L != 0) = true := by simp [h0]
    generalize chk n L = z at *
    clear hv hu h0
    go_enter Try.func8, Try.ntmps8
    go_wp2_with fail
    refine (A1.out _ _ B1.out).mono ?_
    rintro e w1 ⟨vk, rfl, H1⟩
    obtain ⟨ok, ck, rfl, hck, hgk⟩ := H1.out.1.is
    obtain ⟨gk, oo, rfl, hgkl, hatk⟩ := hgk (by decide)
    have k0 := hatk 0 (by decide)
    have k1 := hatk 1 (by decide)
    simp only [List.getElem_cons_zero, List.getElem_cons_succ, Nat.add_zero, List.length_cons, List.length_nil, Nat.zero_add] at k0 k1 hck ⊢
    have F1 : Hid (Below w.heap.size w w1) := bel_tr (bel_al w _) H1.out.2
    clear H1 hgk hatk B1 A1
    go_wp2_with fail
    refine (HC.out _ F1.out).mono ?_
    rintro e w2 ⟨rfl, hb2⟩
    have F2 : Hid (Below w.heap.size w w2) := bel_tr F1.out hb2
    clear hb2 HC F1 k0 k1
    go_wp2
    go_ret
    exact ⟨rfl, F2.out⟩

end Go.Proofs.Ytjamkbhplejolaa
