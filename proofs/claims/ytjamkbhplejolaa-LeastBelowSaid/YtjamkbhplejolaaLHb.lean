/-
  The document's Loop.
-/
import Derived.Test.YtjamkbhplejolaaLH
namespace Go.Proofs.Ytjamkbhplejolaa
open Go.RowKit

/-- One step back, in the document's words. -/
theorem doc_step {N : Nat} {L : List Bq} {s : Rs} {w : World} {gb g o : Nat} (hk : ∀ q ∈ L, okQ N q = true) (hat : ∀ i (h : i < L.length), BqAt w g (o + i * 3) L[i]) (hb : Nb w gb (rowN N (madI s.m))) {j q t y : Nat} (hq : stp (nat L) s q t = some y) (hj : j < q) (ht : t < N) :
    ∃ k i a : Nat, stp (nat L) s j t = some k ∧ k < N ∧ s.m k = some i ∧ i < L.length ∧ stp (nat L) s (j + 1) t = some a ∧ a < N ∧ bck (nat L) s (j + 1) t = bck (nat L) s j t ++ [i] ∧ w.cell? ⟨gb, k, none⟩ = some (.int .i64 i) ∧ w.cell? ⟨g, o + i * 3, none⟩ = some (.int .i64 a) := by
  have hab := nat_abt hk
  obtain ⟨k, i, b, h1, h2, h3, h4⟩ := stp_pre hq hj
  have hkn := stp_lt hab j t k ht h1
  have hi : i < L.length := by have := (List.getElem?_eq_some_iff.1 h3).1; rw [nat_len] at this; exact this
  have e : L[i].a = (b.a : Int) := by
    obtain ⟨A, B, f, _, _, _, _, e1, e2⟩ := bound_at hk hi
    rw [e2] at h3
    injection h3 with h3
    rw [e1, ← h3]
  refine ⟨k, i, b.a, h1, hkn, h2, hi, h4, stp_lt hab (j + 1) t b.a ht h4, bck_snoc j t k i b h1 h2 h3, ?_, ?_⟩
  · rw [hb.at k (by rw [rowN_len]; exact hkn)]
    simp [rowN, madI_some h2]
  · rw [(hat i hi).1, e]
theorem toI_cell {w : World} {g n cap lo : Nat} {l : List Nat} (h : w.ownsRow lo 3 1 (.slice (some ⟨g, 0, none⟩) n cap) n (flatI (toI l))) {j k : Nat} (hj : j < n) (hk : l[j]? = some k) : w.cell? ⟨g, j, none⟩ = some (.int .i64 k) := by
  rw [own_cell h j (by omega)]
  unfold flatI toI
  rw [List.map_map, List.getElem?_map, hk]
  rfl
theorem toI_snoc (l : List Nat) (k : Nat) : toI (l ++ [k]) = toI l ++ [(k : Int)] := by simp [toI]

set_option maxRecDepth 10000 in
set_option maxHeartbeats 8000000 in
theorem rLoop_any (n : Int) (L : List Bq) (v : Value) (w : World) (hv : BS w v L) :
    Calls Try.prog 15 #[.int .i64 n, v] w fun e w' => AnsI w (LopL n L) (chk n L) e w' := by
  have HC : Hid (Calls Try.prog 25 #[.int .i64 n, v] w fun e w' => e = .returned (.int .i64 (chk n L)) ∧ Below w.heap.size w w') := rcheck_any n L v w hv
  unfold LopL
  by_cases h0 : chk n L = 0
  · obtain ⟨h1, h2, h3, h4⟩ := chk_zero h0
    obtain ⟨N, rfl⟩ : ∃ N : Nat, n = N := ⟨n.toNat, by omega⟩
    have hn : N ≤ 4096 := by omega
    rw [if_pos h0, Int.toNat_natCast, h0]
    rw [h0] at HC
    have HR : Hid (∀ W, Below w.heap.size w W → Calls Try.prog 30 #[.int .i64 N, v] W fun e w' => ∃ ga gb, e = .returned (.tuple #[.slice (some ⟨ga, 0, none⟩) N N, .slice (some ⟨gb, 0, none⟩) N N, .int .i64 (lasI (rds (nat L) N rs0).l)]) ∧ Hid (RW W N ga gb w' (rds (nat L) N rs0) ∧ ga ≠ gb ∧ W.heap.size ≤ ga ∧ W.heap.size ≤ gb)) := fun W h => rounds_any N L v W (hv.below h) hn h3 h4
    have HV : Hid (BS w v L) := hv
    have HK : Hid (∀ q ∈ L, okQ N q = true) := h4
    have hL4 : L.length ≤ 4096 := h3
    have HLs : Hid (∀ x, (rds (nat L) N rs0).l = some x → x < N ∧ Lpf (nat L) (rds (nat L) N rs0) N x (lopU (nat L) (rds (nat L) N rs0) N x) (lopP (nat L) (rds (nat L) N rs0) N x)) := fun x hx => ⟨(last_lt (nat_abt h4) hx).1, lpf_of (nat_abt h4) hx (last_lt (nat_abt h4) hx).2⟩
    unfold lopL bakL
    generalize rds (nat L) N rs0 = S at *
    obtain ⟨oa, cap, rfl, hc, _⟩ := hv
    clear h0 h1 h2 h3 h4
    cases hl : S.l with
    | none =>
      rw [hl] at HR
      simp only
      have e : lasI none = -1 := rfl
      rw [e] at HR
      clear hl HLs HV HK e
      go_enter Try.func15, Try.ntmps15
      go_wp2_with fail
      refine HC.out.mono ?_
      rintro e w1 ⟨rfl, hb1⟩
      have H1 : Hid (Below w.heap.size w w1) := hb1
      clear hb1 HC
      go_wp2_with fail
      refine (HR.out _ H1.out).mono ?_
      rintro e w2 ⟨ga, gb, rfl, H2⟩
      have HB : Hid (Below w.heap.size w w2) := H1.out.trans (H2.out.1.2.2.mono H1.out.size)
      clear H2 HR
      go_wp2
      go_ret2
      exact ⟨_, rfl, OwI.nil _ _, HB.out⟩
    | some x =>
      obtain ⟨hx, hf⟩ := HLs.out x hl
      rw [hl] at HR
      simp only
      have e : lasI (some x) = x := rfl
      rw [e] at HR
      have HF : Hid (Lpf (nat L) S N x (lopU (nat L) S N x) (lopP (nat L) S N x)) := hf
      generalize lopU (nat L) S N x = u at *
      generalize lopP (nat L) S N x = p at *
      have ix : ¬ (x : Int) < 0 := by omega
      obtain ⟨ys, Hys⟩ : ∃ ys, Hid (ys = toI (rotN (bck (nat L) S p u).reverse)) := ⟨toI (rotN (bck (nat L) S p u).reverse), by unfold Hid; rfl⟩
      rw [← Hys.out]
      clear hl HLs hf e
      go_enter Try.func15, Try.ntmps15
      go_wp2_with fail
      refine HC.out.mono ?_
      rintro e w1 ⟨rfl, hb1⟩
      have H1 : Hid (Below w.heap.size w w1) := hb1
      clear hb1 HC
      go_wp2_with fail
      refine (HR.out _ H1.out).mono ?_
      rintro e W2 ⟨ga, gb, rfl, H2⟩
      have HB : Hid (Below w.heap.size w W2 ∧ Nb W2 gb (rowN N (madI S.m))) := ⟨H1.out.trans (H2.out.1.2.2.mono H1.out.size), H2.out.1.2.1⟩
      obtain ⟨oa', cap', e', _, hg⟩ := HV.out.below HB.out.1
      injection e' with e1 _ e3
      subst e1 e3
      have HG : Hid (0 < L.length → ∃ g o, oa = some ⟨g, o, none⟩ ∧ g < W2.heap.size ∧ ∀ i (h : i < L.length), BqAt W2 g (o + i * 3) L[i]) := hg
      have hLpos : 0 < L.length := by
        obtain ⟨k, i, b, _, _, h3, _⟩ := stp_pre HF.out.back HF.out.p0
        have := (List.getElem?_eq_some_iff.1 h3).1
        rw [nat_len] at this
        omega
      obtain ⟨g, o, rfl, hgl, hat⟩ := HG.out hLpos
      have HAt : Hid (∀ i (h : i < L.length), BqAt W2 g (o + i * 3) L[i]) := hat
      clear H2 HR hg HG hat H1 HV
      go_wp2_with fail
      (try generalize decide ((x : Int) < 0) = dx)
      clear ix
      go_loopw [9, 10] (fun vv i wr => ∃ (j k : Nat), i = .int .i64 j ∧ vv = .int .i64 k ∧ j ≤ N ∧ wr = W2 ∧ Hid (stp (nat L) S j x = some k)) (fun _ i _ => N - (intOf i).toNat)
      case atStart => exact ⟨0, x, rfl, rfl, Nat.zero_le _, rfl, rfl⟩
      case round =>
        obtain ⟨j, k, rfl, rfl, hj, rfl, HS⟩ := hrel
        by_cases hlt : j < N
        · have ij : (j : Int) < N := by omega
          obtain ⟨k', i, a, h1, h2, _, h3, h4, _, _, h7, h8⟩ := doc_step HK.out HAt.out HB.out.2 HF.out.way hlt hx
          obtain rfl : k' = k := by rw [HS.out] at h1; injection h1 with h1; exact h1.symm
          have H4 : Hid (stp (nat L) S (j + 1) x = some a) := h4
          have ik : (k' : Int) < N := by omega
          have ii : (i : Int) < L.length := by omega
          clear h1 h4 HS
          go_wp2
          exact ⟨⟨j + 1, a, by go_num, rfl, by omega, trivial, H4⟩, by simp [intOf]; omega⟩
        · obtain rfl : j = N := by omega
          obtain rfl : k = u := by have h := HS.out; rw [HF.out.way] at h; injection h with h; exact h.symm
          have hp0 := HF.out.p0
          have hpn := HF.out.pn
          have hun := HF.out.un
          obtain ⟨W2, HW2⟩ : ∃ W2 : World, Hid (W2 = wr) := ⟨wr, by unfold Hid; rfl⟩
          rw [← HW2.out] at HAt HB hgl
          have H0 : Hid (Below W2.heap.size W2 wr) := by rw [HW2.out]; exact Below.refl _ _
          obtain ⟨i0, hi, hz0, hz1, hz2⟩ := info_parts info_int
          have HI : Hid (Try.prog.info? 3 = some i0 ∧ i0.zero = some (.int .i64 0) ∧ i0.size = 1 ∧ i0.bytes = 8) := ⟨hi, hz0, hz1, hz2⟩
          clear hi hz0 hz1 hz2 HS
          go_wp2_with fail
          go_loopw [11, 12] (fun bv uv wr => ∃ (q t : Nat), uv = .int .i64 t ∧ q ≤ p ∧ Hid (stp (nat L) S q k = some t ∧ OwI W2.heap.size wr bv (toI (bck (nat L) S q k)) ∧ Below W2.heap.size W2 wr)) (fun bv _ _ => p - (match bv with | .slice _ n _ => n | _ => 0))
          case atStart => exact ⟨0, k, rfl, by omega, rfl, OwI.nil _ _, H0.out⟩
          case round =>
            obtain ⟨q, t, rfl, hqp, HQ⟩ := hrel
            clear H0
            have hql : (toI (bck (nat L) S q k)).length = q := by rw [toI_len, bck_len q k t HQ.out.1]
            have hown : wr.ownsRow W2.heap.size 3 1 u11 q (flatI (toI (bck (nat L) S q k))) := by have h := HQ.out.2.1; unfold OwI at h; rw [hql] at h; exact h
            obtain ⟨ow, cw, rfl, hcw, hgw⟩ := row_val hown
            by_cases hlt : q < p
            · obtain ⟨k', i', a', g1, g2, _, g3, g4, _, g6, g7, g8⟩ := doc_step HK.out HAt.out HB.out.2 HF.out.back hlt hun
              obtain rfl : t = k' := by rw [HQ.out.1] at g1; injection g1 with g1
              have hne : q = 0 ∨ (¬ q = 0 ∧ ¬ (t : Int) = k) := by
                by_cases c : q = 0
                · exact .inl c
                · refine .inr ⟨c, fun e => HF.out.first q (by omega) hlt ?_⟩
                  have : t = k := by omega
                  rw [HQ.out.1, this]
              have it : (t : Int) < j := by omega
              have ii : (i' : Int) < L.length := by omega
              have c7 : wr.cell? ⟨gb, t, none⟩ = some (.int .i64 i') := (HQ.out.2.2.cell (p := ⟨gb, t, none⟩) HB.out.2.lt).trans g7
              have HG4 : Hid (stp (nat L) S (q + 1) k = some a' ∧ bck (nat L) S (q + 1) k = bck (nat L) S q k ++ [i']) := ⟨g4, g6⟩
              have HO : Hid (∀ o, (wr.alloc o).ownsRow W2.heap.size 3 1 (.slice ow q cw) q (flatI (toI (bck (nat L) S q k))) ∧ Below W2.heap.size W2 (wr.alloc o)) := fun o => ⟨row_below hown ((Below.refl _ _).alloc (Nat.le_refl _) o), HQ.out.2.2.alloc HQ.out.2.2.size o⟩
              have Hql : Hid ((toI (bck (nat L) S q k)).length = q) := hql
              have hc3 : Hid (q + 1 ≤ maxLen) := by unfold Hid maxLen; omega
              have hc4 : Hid ((q + 1) * 8 ≤ 140737488355328) := by unfold Hid; omega
              have HC7 : Hid (∀ X, Below W2.heap.size W2 X → X.cell? ⟨gb, t, none⟩ = some (.int .i64 i') ∧ X.cell? ⟨g, o + i' * 3, none⟩ = some (.int .i64 a')) := fun X hX => ⟨(hX.cell (p := ⟨gb, t, none⟩) HB.out.2.lt).trans g7, (hX.cell (p := ⟨g, o + i' * 3, none⟩) hgl).trans g8⟩
              obtain ⟨hi, hz0, hz1, hz2⟩ := HI.out
              clear g1 g4 g6 g7 g8 hown hql hgw HQ
              rcases hne with rfl | ⟨hq0, hne⟩
              · have e0 : ((0 : Nat) : Int) = 0 := rfl
                go_wp2_with (at_builtin; refine wpList_append_own _ rfl _ _ 26 rfl W2.heap.size 3 i0 (.int .i64 0) 1 8 Try.underlying26 hi hz0 hz1 hz2 rfl (by decide) (.slice ow 0 cw) 0 (flatI (toI (bck (nat L) S 0 k))) rfl (HO.out _).1 _ 1 1 [.int .i64 i'] rfl rfl (cell_oneB _ _ _ _ rfl) (one1 _) hc3.out hc4.out (HO.out _).2.size ?_)
                intro v' w4 hown4 hgrow _
                have H4 : Hid (OwI W2.heap.size w4 v' (toI (bck (nat L) S (0 + 1) k)) ∧ Below W2.heap.size W2 w4) := by
                  refine ⟨?_, app_below (HO.out _).2 (HO.out _).1 (Nat.le_refl _) hgrow⟩
                  unfold OwI
                  rw [HG4.out.2, toI_snoc, List.length_append, flatI_app, Hql.out]
                  exact hown4
                obtain ⟨o5, c5, rfl, _⟩ := row_val hown4
                obtain ⟨d7, d8⟩ := HC7.out w4 H4.out.2
                clear hown4 hgrow hi hz0 hz1 hz2 HO c7
                go_wp2
                exact ⟨⟨0 + 1, a', rfl, by omega, HG4.out.1, H4.out⟩, by simp only; omega⟩
              · have iq : ¬ (q : Int) = 0 := by omega
                have bq : ((q : Int) == 0) = false := by simp [hq0]
                have bt : ((t : Int) != k) = true := by simp only [bne_iff_ne, ne_eq]; exact hne
                go_wp2_with (at_builtin; refine wpList_append_own _ rfl _ _ 26 rfl W2.heap.size 3 i0 (.int .i64 0) 1 8 Try.underlying26 hi hz0 hz1 hz2 rfl (by decide) (.slice ow q cw) q (flatI (toI (bck (nat L) S q k))) rfl (HO.out _).1 _ 1 1 [.int .i64 i'] rfl rfl (cell_oneB _ _ _ _ rfl) (one1 _) hc3.out hc4.out (HO.out _).2.size ?_)
                intro v' w4 hown4 hgrow _
                have H4 : Hid (OwI W2.heap.size w4 v' (toI (bck (nat L) S (q + 1) k)) ∧ Below W2.heap.size W2 w4) := by
                  refine ⟨?_, app_below (HO.out _).2 (HO.out _).1 (Nat.le_refl _) hgrow⟩
                  unfold OwI
                  rw [HG4.out.2, toI_snoc, List.length_append, flatI_app, Hql.out]
                  exact hown4
                obtain ⟨o5, c5, rfl, _⟩ := row_val hown4
                obtain ⟨d7, d8⟩ := HC7.out w4 H4.out.2
                clear hown4 hgrow hi hz0 hz1 hz2 HO c7
                go_wp2
                exact ⟨⟨q + 1, a', rfl, by omega, HG4.out.1, H4.out⟩, by simp only; omega⟩
            · obtain rfl : q = p := by omega
              obtain rfl : t = k := by have h := HQ.out.1; rw [HF.out.back] at h; injection h with h; exact h.symm
              obtain ⟨gw, rfl, hgw1, hgw2⟩ := hgw (by omega)
              obtain ⟨B, HB2⟩ : ∃ B, Hid (B = bck (nat L) S q t) := ⟨bck (nat L) S q t, by unfold Hid; rfl⟩
              have HBl : Hid (B.length = q) := by unfold Hid; rw [HB2.out, ← toI_len, hql]
              have HBu : Hid (∀ (i j k : Nat), B[i]? = some k → B[j]? = some k → i = j) := fun i j k h1 h2 => by
                have i1 := (List.getElem?_eq_some_iff.1 h1).1
                have i2 := (List.getElem?_eq_some_iff.1 h2).1
                rw [HBl.out] at i1 i2
                rw [HB2.out] at h1 h2
                exact bck_uniq HF.out i1 i2 h1 h2
              have HO : Hid (wr.ownsRow W2.heap.size 3 1 (.slice (some ⟨gw, 0, none⟩) q cw) q (flatI (toI B)) ∧ Below W2.heap.size W2 wr) := by rw [HB2.out]; exact ⟨hown, HQ.out.2.2⟩
              have Hyb : Hid (ys = toI (rotN B.reverse)) := by rw [HB2.out]; exact Hys
              have iq0 : ¬ (q : Int) = 0 := by omega
              have bq : ((q : Int) == 0) = false := by simp; omega
              clear hown hql hgw HQ HB2 Hys
              go_wp2_with fail
              go_loopw [13, 14] (fun bv iv wr => ∃ (b i : Nat), bv = .int .i64 b ∧ iv = .int .i64 i ∧ b < q ∧ i ≤ q ∧ Hid ((∀ j z y : Nat, j < i → B[j]? = some z → B[b]? = some y → y ≤ z) ∧ wr.ownsRow W2.heap.size 3 1 (.slice (some ⟨gw, 0, none⟩) q cw) q (flatI (toI B)) ∧ Below W2.heap.size W2 wr)) (fun _ i _ => q - (intOf i).toNat)
              case atStart => exact ⟨0, 0, rfl, rfl, hp0, Nat.zero_le _, fun j z y hj => absurd hj (Nat.not_lt_zero j), HO.out⟩
              case round =>
                obtain ⟨b, i, rfl, rfl, hb, hiq, HQ⟩ := hrel
                clear HO
                by_cases hlt2 : i < q
                · have ii : (i : Int) < q := by omega
                  have ib : (b : Int) < q := by omega
                  have hiB : i < B.length := by rw [HBl.out]; exact hlt2
                  have hbB : b < B.length := by rw [HBl.out]; exact hb
                  have x0 := toI_cell HQ.out.2.1 hlt2 (List.getElem?_eq_getElem hiB)
                  have x1 := toI_cell HQ.out.2.1 hb (List.getElem?_eq_getElem hbB)
                  have HT : Hid ((B[i] < B[b] → ∀ j z y : Nat, j < i + 1 → B[j]? = some z → B[i]? = some y → y ≤ z) ∧ (¬ B[i] < B[b] → ∀ j z y : Nat, j < i + 1 → B[j]? = some z → B[b]? = some y → y ≤ z)) := by
                    refine ⟨fun hlt3 j z y hj hz hy => ?_, fun hlt3 j z y hj hz hy => ?_⟩
                    · rw [List.getElem?_eq_getElem hiB] at hy
                      injection hy with hy
                      by_cases c : j = i
                      · subst c
                        rw [List.getElem?_eq_getElem hiB] at hz
                        injection hz with hz
                        omega
                      · have := HQ.out.1 j z B[b] (by omega) hz (List.getElem?_eq_getElem hbB)
                        omega
                    · rw [List.getElem?_eq_getElem hbB] at hy
                      injection hy with hy
                      by_cases c : j = i
                      · subst c
                        rw [List.getElem?_eq_getElem hiB] at hz
                        injection hz with hz
                        omega
                      · have := HQ.out.1 j z B[b] (by omega) hz (List.getElem?_eq_getElem hbB)
                        omega
                  have HD : Hid (∀ m, (wr.drewN m).ownsRow W2.heap.size 3 1 (.slice (some ⟨gw, 0, none⟩) q cw) q (flatI (toI B)) ∧ Below W2.heap.size W2 (wr.drewN m)) := fun m => ⟨HQ.out.2.1, below_drewN HQ.out.2.2⟩
                  generalize B[i] = bi at *
                  generalize B[b] = bb at *
                  clear HQ hiB hbB
                  by_cases hlt3 : bi < bb
                  · have i3 : (bi : Int) < bb := by omega
                    have HN : Hid (∀ j z y : Nat, j < i + 1 → B[j]? = some z → B[i]? = some y → y ≤ z) := HT.out.1 hlt3
                    clear HT
                    go_wp2_with fail
                    go_quiet (fail)
                    go_wp2
                    exact ⟨⟨i, i + 1, rfl, by go_num, hlt2, by omega, HN.out, HD.out _⟩, by simp [intOf]; omega⟩
                  · have i3 : ¬ (bi : Int) < bb := by omega
                    have HN : Hid (∀ j z y : Nat, j < i + 1 → B[j]? = some z → B[b]? = some y → y ≤ z) := HT.out.2 hlt3
                    clear HT
                    go_wp2_with fail
                    go_quiet (fail)
                    go_wp2
                    exact ⟨⟨b, i + 1, rfl, by go_num, hb, by omega, HN.out, HD.out _⟩, by simp [intOf]; omega⟩
                · obtain rfl : i = q := by omega
                  have HDoc : Hid (∀ j : Nat, j < B.length → (rotN B.reverse)[j]? = B[(b + B.length - j) % B.length]?) := by
                    have hbB : b < B.length := by rw [HBl.out]; exact hb
                    exact rot_doc hbB (fun j hj => HQ.out.1 j B[j] B[b] (by rw [HBl.out] at hj; exact hj) (List.getElem?_eq_getElem hj) (List.getElem?_eq_getElem hbB)) HBu.out
                  obtain ⟨W3, HW3⟩ : ∃ W3 : World, Hid (W3 = wr) := ⟨wr, by unfold Hid; rfl⟩
                  have HO : Hid (W3.ownsRow W2.heap.size 3 1 (.slice (some ⟨gw, 0, none⟩) i cw) i (flatI (toI B)) ∧ Below W2.heap.size W2 W3 ∧ gw < W3.heap.size) := by rw [HW3.out]; exact ⟨HQ.out.2.1, HQ.out.2.2, (row_lt HQ.out.2.1 gw rfl).2⟩
                  have H30 : Hid (Below W3.heap.size W3 wr) := by rw [HW3.out]; exact Below.refl _ _
                  clear HQ
                  go_wp2_with fail
                  go_loopw [15, 16] (fun ov iv wr => ∃ j : Nat, iv = .int .i64 j ∧ j ≤ i ∧ Hid (OwI W3.heap.size wr ov (toI ((rotN B.reverse).take j)) ∧ Below W3.heap.size W3 wr)) (fun _ iv _ => i - (intOf iv).toNat)
                  case atStart => exact ⟨0, rfl, Nat.zero_le _, OwI.nil _ _, H30.out⟩
                  case round =>
                    obtain ⟨jj, rfl, hjj, HQ⟩ := hrel
                    clear H30
                    have hrl : (rotN B.reverse).length = i := by rw [rotN_len, List.length_reverse, HBl.out]
                    by_cases hlt4 : jj < i
                    · have i4 : (jj : Int) < i := by omega
                      obtain ⟨r, hr⟩ : ∃ r : Nat, r = b + i - jj := ⟨_, rfl⟩
                      obtain ⟨m, hm⟩ : ∃ m : Nat, m = r % i := ⟨_, rfl⟩
                      have e1 : (b : Int) - jj + i = r := by omega
                      have e2 : (r : Int).tmod i = m := by rw [hm]; exact (Int.ofNat_tmod r i).symm
                      have e3 : (r : Int) % i = m := by rw [hm]; rfl
                      have hmi : m < i := by rw [hm]; exact Nat.mod_lt _ (by omega)
                      have imi : (m : Int) < i := by omega
                      have hmB : m < B.length := by rw [HBl.out]; exact hmi
                      have hd := HDoc.out jj (by rw [HBl.out]; exact hlt4)
                      rw [HBl.out, ← hr, ← hm, List.getElem?_eq_getElem hmB] at hd
                      have xm : wr.cell? ⟨gw, m, none⟩ = some (.int .i64 (B[m] : Nat)) := (HQ.out.2.cell (p := ⟨gw, m, none⟩) HO.out.2.2).trans (toI_cell HO.out.1 hmi (List.getElem?_eq_getElem hmB))
                      have HTk : Hid ((rotN B.reverse).take (jj + 1) = (rotN B.reverse).take jj ++ [B[m]]) := by
                        unfold Hid
                        have hjl : jj < (rotN B.reverse).length := by rw [hrl]; exact hlt4
                        rw [← List.take_append_getElem hjl]
                        congr 2
                        rw [List.getElem?_eq_getElem hjl] at hd
                        injection hd
                      have hlen : (toI ((rotN B.reverse).take jj)).length = jj := by rw [toI_len, List.length_take, hrl]; omega
                      have hown : wr.ownsRow W3.heap.size 3 1 u15 jj (flatI (toI ((rotN B.reverse).take jj))) := by have h := HQ.out.1; unfold OwI at h; rw [hlen] at h; exact h
                      have HOo : Hid (∀ o, (wr.alloc o).ownsRow W3.heap.size 3 1 u15 jj (flatI (toI ((rotN B.reverse).take jj))) ∧ Below W3.heap.size W3 (wr.alloc o)) := fun o => ⟨row_below hown ((Below.refl _ _).alloc (Nat.le_refl _) o), HQ.out.2.alloc HQ.out.2.size o⟩
                      have Hlen : Hid ((toI ((rotN B.reverse).take jj)).length = jj) := hlen
                      have hc3 : Hid (jj + 1 ≤ maxLen) := by unfold Hid maxLen; omega
                      have hc4 : Hid ((jj + 1) * 8 ≤ 140737488355328) := by unfold Hid; omega
                      obtain ⟨hi, hz0, hz1, hz2⟩ := HI.out
                      generalize B[m] = bm at *
                      have ip : ¬ (i : Int) = 0 := by omega
                      clear hown hlen HQ hrl hd hm hr hmB
                      go_wp2_with (at_builtin; refine wpList_append_own _ rfl _ _ 26 rfl W3.heap.size 3 i0 (.int .i64 0) 1 8 Try.underlying26 hi hz0 hz1 hz2 rfl (by decide) u15 jj (flatI (toI ((rotN B.reverse).take jj))) rfl (HOo.out _).1 _ 1 1 [.int .i64 bm] rfl rfl (cell_oneB _ _ _ _ rfl) (one1 _) hc3.out hc4.out (HOo.out _).2.size ?_)
                      intro v' w4 hown4 hgrow _
                      have H4 : Hid (OwI W3.heap.size w4 v' (toI ((rotN B.reverse).take (jj + 1))) ∧ Below W3.heap.size W3 w4) := by
                        refine ⟨?_, app_below (HOo.out _).2 (HOo.out _).1 (Nat.le_refl _) hgrow⟩
                        unfold OwI
                        rw [HTk.out, toI_snoc, List.length_append, flatI_app, Hlen.out]
                        exact hown4
                      clear hown4 hgrow hi hz0 hz1 hz2 HOo
                      go_wp2
                      exact ⟨⟨jj + 1, by go_num, by omega, H4⟩, by simp [intOf]; omega⟩
                    · obtain rfl : jj = i := by omega
                      have HFin : Hid (OwI w.heap.size wr u15 ys ∧ Below w.heap.size w wr) := by
                        have b3 : Below w.heap.size w W3 := HB.out.1.trans (HO.out.2.1.mono HB.out.1.size)
                        refine ⟨?_, b3.trans (HQ.out.2.mono b3.size)⟩
                        rw [Hyb.out]
                        have h := HQ.out.1
                        rw [List.take_of_length_le (by rw [hrl]; exact Nat.le_refl _)] at h
                        exact h.weaken b3.size
                      clear HQ hrl
                      go_wp2
                      go_ret2
                      exact ⟨_, rfl, HFin⟩
  · rw [if_neg h0]
    have h1 : (chk n L != 0) = true := by simp [h0]
    generalize chk n L = z at *
    clear h0 hv
    go_enter Try.func15, Try.ntmps15
    go_wp2_with fail
    refine HC.out.mono ?_
    rintro e w1 ⟨rfl, hb1⟩
    have H1 : Hid (Below w.heap.size w w1) := hb1
    clear hb1
    go_wp2
    go_ret2
    exact ⟨_, rfl, OwI.nil _ _, H1.out⟩

end Go.Proofs.Ytjamkbhplejolaa
