/-
  The walk of LeastMore.
-/
import Derived.Test.YtjamkbhplejolaaLW
import Derived.Test.YtjamkbhplejolaaLP5
namespace Go.Proofs.Ytjamkbhplejolaa
open Go.RowKit

theorem chk_more {n : Int} {L : List Bq} {q : Bq} (h : chk n (L ++ [q]) = 0) : chk n L = 0 := by
  obtain ⟨h1, h2, h3, h4⟩ := chk_zero h
  unfold chk
  rw [if_neg (by omega), if_neg (by simp at h3; omega), if_pos]
  rw [List.all_eq_true]
  exact fun x hx => h4 x (by simp [hx])
theorem solE_of {n : Int} {L : List Bq} (h0 : chk n L = 0) (hl : (rds (nat L) n.toNat rs0).l = none) : solE n L = 0 := by
  unfold solE slE
  rw [if_pos h0, if_pos hl]
theorem kps_of {N : Nat} {L : List Bn} (hab : Abt N L) (hl : (rds L N rs0).l = none) : Kps L (rds L N rs0).x := by
  rcases Nat.eq_zero_or_pos N with h | h
  · intro b hb
    have := (hab b hb).1
    omega
  · exact rds_kept h hl
theorem more_ok {n : Int} {L : List Bq} {q : Bq} (h : solE n (L ++ [q]) = 0) : solE n L = 0 ∧ ∀ v, (rds (nat L) n.toNat rs0).x v ≤ (rds (nat (L ++ [q])) n.toNat rs0).x v := by
  obtain ⟨h0, hl, _⟩ := solE_zero h
  have h0' := chk_more h0
  obtain ⟨h1, h2, h3, h4⟩ := chk_zero h0
  obtain ⟨N, rfl⟩ : ∃ N : Nat, n = N := ⟨n.toNat, by omega⟩
  rw [Int.toNat_natCast] at *
  have hab := nat_abt h4
  have hK := kps_of hab hl
  have hK' : Kps (nat L) (rds (nat (L ++ [q])) N rs0).x := fun b hb => hK b (by unfold nat at hb ⊢; rw [List.map_append]; exact List.mem_append.2 (.inl hb))
  obtain ⟨_, _, _, k4⟩ := chk_zero h0'
  have hab' := nat_abt k4
  have hle : ∀ v, (rds (nat L) N rs0).x v ≤ (rds (nat (L ++ [q])) N rs0).x v := rds_le hK' (s := rs0) (rds_ge (nat (L ++ [q])) N rs0)
  refine ⟨solE_of h0' ?_, hle⟩
  rw [Int.toNat_natCast]
  rcases Nat.eq_zero_or_pos N with h | h
  · subst h; rfl
  · exact (rds_least hab' h hK').1
theorem trq_ok (n : Int) (L : List Bq) : solE n (L.map trq) = 0 ↔ solE n L = 0 := by
  have key : ∀ M : List Bq, solE n M = 0 → solE n (M.map trq) = 0 := by
    intro M h
    obtain ⟨h0, hl, _⟩ := solE_zero h
    obtain ⟨h1, h2, h3, h4⟩ := chk_zero h0
    obtain ⟨N, rfl⟩ : ∃ N : Nat, n = N := ⟨n.toNat, by omega⟩
    rw [Int.toNat_natCast] at hl
    refine solE_of (by rw [chk_trq]; exact h0) ?_
    rw [Int.toNat_natCast, nat_trq]
    rcases Nat.eq_zero_or_pos N with h | h
    · subst h; rfl
    · exact (trn_ok (nat_abt h4) h).1 hl
  refine ⟨fun h => ?_, key L⟩
  have := key _ h
  rw [List.map_map] at this
  have e : (trq ∘ trq) = id := funext fun q => rfl
  rw [e, List.map_id] at this
  exact this
theorem mo_of {n : Int} {L : List Bq} {most : Int} (h : moE n L most = 0) : ∃ N : Nat, n = N ∧ N ≤ 4096 ∧ 0 ≤ most ∧ most ≤ 1099511627776 ∧ moL n L most = rowN N (fun v => most - moX n L v) ∧ solL n (L.map trq) = rowN N (moX n L) ∧ (∀ v, 0 ≤ moX n L v ∧ moX n L v ≤ 17592186044416) := by
  have hm := h
  unfold moE at h
  split at h
  · next h0 =>
    split at h
    · omega
    next h1 =>
    split at h
    · next h2 =>
      obtain ⟨k1, k2, k3, k4⟩ := chk_zero h0
      obtain ⟨N, rfl⟩ : ∃ N : Nat, n = N := ⟨n.toNat, by omega⟩
      have hs : solE N (L.map trq) = 0 := by unfold solE; rw [chk_trq, if_pos h0]; exact h2
      obtain ⟨_, _, e⟩ := solE_zero hs
      refine ⟨N, rfl, by omega, by omega, by omega, ?_, ?_, ?_⟩
      · unfold moL; rw [if_pos hm, Int.toNat_natCast]
      · rw [e, Int.toNat_natCast]; unfold moX; rw [Int.toNat_natCast]
      · unfold moX
        rw [Int.toNat_natCast]
        refine rds_bound (by omega) (by simpa using k3) fun q hq => ?_
        obtain ⟨p, hp, rfl⟩ := List.mem_map.1 hq
        rw [okQ_trq]; exact k4 p hp
    · next h2 => exact absurd h h2
  · next h0 => exact absurd h h0
theorem is_rows {w : World} {v : Value} {N : Nat} {x : Nat → Int} (h : IS w v (rowN N x)) : ∃ oa cap, v = .slice oa N cap ∧ N ≤ cap ∧ (0 < N → ∃ g o, oa = some ⟨g, o, none⟩ ∧ g < w.heap.size ∧ ∀ i, i < N → w.cell? ⟨g, o + i, none⟩ = some (.int .i64 (x i))) := is_row h

set_option maxRecDepth 10000 in
set_option maxHeartbeats 8000000 in
theorem more_walk (n : Int) (L : List Bq) (q : Bq) (most : Int) (v : Value) (w : World) (hv : BS w v L) (hnn : NoNil v) :
    Calls Try.prog 7 #[.int .i64 n, v, .agg #[.int .i64 q.a, .int .i64 q.b, .int .i64 q.f], .int .i64 most] w fun e w' => e = .returned (.bool true) ∧ Below w.heap.size w w' := by
  have HA : Hid (∀ W, Calls Try.prog 9 #[] W fun e w' => e = .returned (.bool true) ∧ Below W.heap.size W w') := fun W => awake_any W
  have HV : Hid (BS w v L ∧ NoNil v) := ⟨hv, hnn⟩
  obtain ⟨oa, cap, rfl, hc, hg0⟩ := id hv
  have C0 : Hid (∀ o, Below w.heap.size w (w.alloc o)) := fun o => bel_al w o
  have K0 : Hid (Bk (w.alloc (.cells #[.int .i64 q.a, .int .i64 q.b, .int .i64 q.f] 39)) w.heap.size #[.int .i64 q.a, .int .i64 q.b, .int .i64 q.f] 39) := Bk.new _ _ _
  by_cases hn1 : 200 < n
  · clear hv hnn hg0
    go_enter Try.func7, Try.ntmps7
    go_wp2_with fail
    refine (HA.out _).mono ?_
    rintro e w1 ⟨rfl, hb1⟩
    have F1 : Hid (Below w.heap.size w w1) := bel_tr (C0.out _) hb1
    clear hb1
    go_wp2
    go_ret
    exact ⟨rfl, F1.out⟩
  by_cases hn2 : 400 < L.length
  · have i2 : (400 : Int) < L.length := by omega
    clear hv hnn hg0
    go_enter Try.func7, Try.ntmps7
    go_wp2_with fail
    refine (HA.out _).mono ?_
    rintro e w1 ⟨rfl, hb1⟩
    have F1 : Hid (Below w.heap.size w w1) := bel_tr (C0.out _) hb1
    clear hb1
    go_wp2
    go_ret
    exact ⟨rfl, F1.out⟩
  have i2 : ¬ (400 : Int) < L.length := by omega
  have A1 : Hid (∀ W y, BS W y L → Calls Try.prog 12 #[.int .i64 n, y] W fun e w' => AnsI W (solL n L) (solE n L) e w') := fun W y h => Solve_any n L y W h
  have A2 : Hid (∀ W y, BS W y (L ++ [q]) → Calls Try.prog 12 #[.int .i64 n, y] W fun e w' => AnsI W (solL n (L ++ [q])) (solE n (L ++ [q])) e w') := fun W y h => Solve_any n (L ++ [q]) y W h
  have A3 : Hid (∀ W y, BS W y (L.map trq) → Calls Try.prog 12 #[.int .i64 n, y] W fun e w' => AnsI W (solL n (L.map trq)) (solE n (L.map trq)) e w') := fun W y h => Solve_any n (L.map trq) y W h
  have A4 : Hid (∀ W y, BS W y L → Calls Try.prog 23 #[.int .i64 n, y, .int .i64 most] W fun e w' => AnsI W (moL n L most) (moE n L most) e w') := fun W y h => Most_any n L most y W h
  have HMo : Hid (moE n L most = 0 → ∃ N : Nat, n = N ∧ N ≤ 4096 ∧ 0 ≤ most ∧ most ≤ 1099511627776 ∧ moL n L most = rowN N (fun v => most - moX n L v) ∧ solL n (L.map trq) = rowN N (moX n L) ∧ (∀ v, 0 ≤ moX n L v ∧ moX n L v ≤ 17592186044416)) := fun h => mo_of h
  obtain ⟨i0, hi, hz0, hz1, hz2⟩ := info_parts info_bound
  have HI : Hid (Try.prog.info? 39 = some i0 ∧ i0.zero = some (.agg #[.int .i64 0, .int .i64 0, .int .i64 0]) ∧ i0.size = 3 ∧ i0.bytes = 24) := ⟨hi, hz0, hz1, hz2⟩
  have hl4 : L.length ≤ 400 := by omega
  clear hi hz0 hz1 hz2 hv hnn
  by_cases hf : solE n (L ++ [q]) = 0
  · obtain ⟨he, hle⟩ := more_ok hf
    have hgz : solE n (L.map trq) = 0 := (trq_ok n L).2 he
    obtain ⟨_, _, ex⟩ := solE_zero he
    obtain ⟨k0, _, ey⟩ := solE_zero hf
    obtain ⟨k1, k2, _, _⟩ := chk_zero k0
    obtain ⟨N, rfl⟩ : ∃ N : Nat, n = N := ⟨n.toNat, by omega⟩
    rw [Int.toNat_natCast] at hle ex ey
    have HLe : Hid (∀ v, (rds (nat L) N rs0).x v ≤ (rds (nat (L ++ [q])) N rs0).x v) := hle
    rw [he, ex] at A1
    rw [hf, ey] at A2
    rw [hgz] at A3
    generalize (rds (nat L) N rs0).x = x at *
    generalize (rds (nat (L ++ [q])) N rs0).x = y at *
    clear hf he hle hgz ex ey k0 k1 k2
    go_enter Try.func7, Try.ntmps7
    go_wp2_with fail
    refine (HA.out _).mono ?_
    rintro e w1 ⟨rfl, hb1⟩
    have F1 : Hid (Below w.heap.size w w1 ∧ BS w1 (.slice oa L.length cap) L) := ⟨bel_tr (C0.out _) hb1, HV.out.1.below (bel_tr (C0.out _) hb1)⟩
    obtain ⟨c0, c1, c2⟩ := (K0.out.below hb1).at3
    have lw : w.heap.size < w1.heap.size := (K0.out.below hb1).lt
    clear hb1 K0 C0
    obtain ⟨hi, hz0, hz1, hz2⟩ := HI.out
    go_wp2_with (at_builtin; refine app_firstQ rfl _ _ rfl i0 Try.underlying22 hi hz0 hz1 hz2 rfl L oa cap rfl F1.out.2 HV.out.2 (by omega) ?_)
    intro v1 w2 H2
    have d0 : w2.cell? ⟨w.heap.size, 0, none⟩ = some (.int .i64 q.a) := (H2.out.2.cell (p := ⟨w.heap.size, 0, none⟩) lw).trans c0
    have d1 : w2.cell? ⟨w.heap.size, 1, none⟩ = some (.int .i64 q.b) := (H2.out.2.cell (p := ⟨w.heap.size, 1, none⟩) lw).trans c1
    have d2 : w2.cell? ⟨w.heap.size, 2, none⟩ = some (.int .i64 q.f) := (H2.out.2.cell (p := ⟨w.heap.size, 2, none⟩) lw).trans c2
    have hc3 : Hid (L.length + 1 ≤ maxLen) := by unfold Hid maxLen; omega
    have hc4 : Hid ((L.length + 1) * 24 ≤ 140737488355328) := by unfold Hid; omega
    have HAl : Hid (∀ o, (w2.alloc o).ownsRow w1.heap.size 39 3 v1 L.length (flatQ L) ∧ Below w1.heap.size w1 (w2.alloc o)) := fun o => ⟨row_below H2.out.1 ((Below.refl _ _).alloc (Nat.le_refl _) _), H2.out.2.alloc H2.out.2.size _⟩
    clear c0 c1 c2 H2
    go_wp2_with (at_builtin; refine wpList_append_own _ rfl _ _ 22 rfl w1.heap.size 39 i0 (.agg #[.int .i64 0, .int .i64 0, .int .i64 0]) 3 24 Try.underlying22 hi hz0 hz1 hz2 rfl (by decide) v1 L.length (flatQ L) rfl (HAl.out _).1 _ 1 1 [.int .i64 q.a, .int .i64 q.b, .int .i64 q.f] rfl rfl (cell_three _ _ _ _ _ _ rfl) (one3 _ _ _) hc3.out hc4.out (HAl.out _).2.size ?_)
    intro v2 w3 hown hgrow _
    have F3 : Hid (Below w.heap.size w w3 ∧ BS w3 (.slice oa L.length cap) L ∧ BS w3 v2 (L ++ [q])) := by
      have b3 : Below w1.heap.size w1 w3 := app_below (HAl.out _).2 (HAl.out _).1 (Nat.le_refl _) hgrow
      refine ⟨bel_tr F1.out.1 b3, F1.out.2.below b3, OwB.bs (lo := w1.heap.size) ?_⟩
      unfold OwB
      rw [flatQ_app, List.length_append]
      exact hown
    clear hown hgrow HAl F1 d0 d1 d2 hi hz0 hz1 hz2 lw
    go_wp2_with fail
    refine (A1.out _ _ F3.out.2.1).mono ?_
    rintro e w4 ⟨vx, rfl, H4⟩
    have F4 : Hid (Below w.heap.size w w4 ∧ BS w4 (.slice oa L.length cap) L ∧ BS w4 v2 (L ++ [q]) ∧ IS w4 vx (rowN N x)) := ⟨bel_tr F3.out.1 H4.out.2, F3.out.2.1.below H4.out.2, F3.out.2.2.below H4.out.2, H4.out.1.is⟩
    clear H4 F3 A1
    go_wp2_with fail
    refine (A2.out _ _ F4.out.2.2.1).mono ?_
    rintro e w5 ⟨vy, rfl, H5⟩
    have F5 : Hid (Below w.heap.size w w5 ∧ BS w5 (.slice oa L.length cap) L ∧ IS w5 vx (rowN N x) ∧ IS w5 vy (rowN N y)) := ⟨bel_tr F4.out.1 H5.out.2, F4.out.2.1.below H5.out.2, F4.out.2.2.2.below H5.out.2, H5.out.1.is⟩
    clear H5 F4 A2
    obtain ⟨ox, cx, rfl, hcx, hgx⟩ := is_rows F5.out.2.2.1
    obtain ⟨oy, cy, rfl, hcy, hgy⟩ := is_rows F5.out.2.2.2
    have HX : Hid ((0 < N → ∃ g o, ox = some ⟨g, o, none⟩ ∧ g < w5.heap.size ∧ ∀ i, i < N → w5.cell? ⟨g, o + i, none⟩ = some (.int .i64 (x i))) ∧ (0 < N → ∃ g o, oy = some ⟨g, o, none⟩ ∧ g < w5.heap.size ∧ ∀ i, i < N → w5.cell? ⟨g, o + i, none⟩ = some (.int .i64 (y i)))) := ⟨hgx, hgy⟩
    clear hgx hgy
    go_wp2_with fail
    (try generalize decide ((200 : Int) < (N : Int)) = dA)
    (try generalize decide ((400 : Int) < (L.length : Int)) = dB)
    have hN2 : N ≤ 200 := by omega
    clear hn1 i2
    go_loopw [15] (fun i wr => ∃ k : Nat, i = .int .i64 k ∧ k ≤ N ∧ Hid (Below w5.heap.size w5 wr)) (fun i _ => N - (intOf i).toNat)
    case atStart => exact ⟨0, rfl, Nat.zero_le _, Below.refl _ _⟩
    case round =>
      obtain ⟨k, rfl, hk, HQ⟩ := hrel
      by_cases hlt : k < N
      · have ik : (k : Int) < N := by omega
        obtain ⟨gx, o1, rfl, hgx1, hgx2⟩ := HX.out.1 (by omega)
        obtain ⟨gy, o2, rfl, hgy1, hgy2⟩ := HX.out.2 (by omega)
        have c1 : wr.cell? ⟨gx, o1 + k, none⟩ = some (.int .i64 (x k)) := (HQ.out.cell (p := ⟨gx, o1 + k, none⟩) hgx1).trans (hgx2 k hlt)
        have c2 : wr.cell? ⟨gy, o2 + k, none⟩ = some (.int .i64 (y k)) := (HQ.out.cell (p := ⟨gy, o2 + k, none⟩) hgy1).trans (hgy2 k hlt)
        have hle := HLe.out k
        have hgt : ¬ y k < x k := by omega
        have HW : Hid (∀ m, Below w5.heap.size w5 (wr.drewN m)) := fun m => below_drewN HQ.out
        generalize x k = xk at *
        generalize y k = yk at *
        clear hgx2 hgy2 HQ hle
        go_wp2_with fail
        go_quiet (fail)
        go_wp2
        exact ⟨⟨k + 1, by go_num, by omega, HW.out _⟩, by simp [intOf]; omega⟩
      · have ik : ¬ (k : Int) < N := by omega
        have F6 : Hid (Below w.heap.size w wr ∧ BS wr (.slice oa L.length cap) L) := ⟨bel_tr F5.out.1 HQ.out, F5.out.2.1.below HQ.out⟩
        clear HQ F5 HX
        obtain ⟨W6, HW6⟩ : ∃ W6 : World, Hid (W6 = wr) := ⟨wr, by unfold Hid; rfl⟩
        rw [← HW6.out] at F6
        have H60 : Hid (Below W6.heap.size W6 wr) := by rw [HW6.out]; exact Below.refl _ _
        obtain ⟨oa', cap', e', _, hg⟩ := F6.out.2
        injection e' with e1 _ e3
        subst e1 e3
        have HG : Hid (0 < L.length → ∃ g o, oa = some ⟨g, o, none⟩ ∧ g < W6.heap.size ∧ ∀ i (h : i < L.length), BqAt W6 g (o + i * 3) L[i]) := hg
        clear hg
        go_wp2_with fail
        go_loopw [16, 17] (fun t i wr => ∃ k : Nat, i = .int .i64 k ∧ k ≤ L.length ∧ Hid (OwB W6.heap.size wr t ((L.take k).map trq) ∧ Below W6.heap.size W6 wr)) (fun _ i _ => L.length - (intOf i).toNat)
        case atStart => exact ⟨0, rfl, Nat.zero_le _, OwB.nil _ _, H60.out⟩
        case round =>
          obtain ⟨k, rfl, hk, HQ⟩ := hrel
          by_cases hlt : k < L.length
          · have ik : (k : Int) < L.length := by omega
            obtain ⟨g, o, rfl, hgl, hat⟩ := HG.out (by omega)
            have hx := (hat k hlt).below HQ.out.2 hgl
            obtain ⟨x0, x1, x2⟩ := hx
            have lg : g < wr.heap.size := Nat.lt_of_lt_of_le hgl HQ.out.2.size
            have Hlen : Hid (((L.take k).map trq).length = k) := by unfold Hid; simp; omega
            have hown : wr.ownsRow W6.heap.size 39 3 u16 k (flatQ ((L.take k).map trq)) := by have h := HQ.out.1; unfold OwB at h; rw [Hlen.out] at h; exact h
            obtain ⟨ot, ct, rfl, _, _⟩ := row_val hown
            have HO : Hid (wr.ownsRow W6.heap.size 39 3 (.slice ot k ct) k (flatQ ((L.take k).map trq)) ∧ Below W6.heap.size W6 wr) := ⟨hown, HQ.out.2⟩
            have HTk : Hid ((L.take (k + 1)).map trq = (L.take k).map trq ++ [trq L[k]]) := by unfold Hid; rw [← List.take_append_getElem hlt, List.map_append]; rfl
            clear HQ hat hown
            generalize L[k] = qq at *
            go_wp2_with fail
            refine R4.wp_region_lit 17 1 2 (fun _ b => .slice (some ⟨b, 0, none⟩) 1 1) (fun _ => .cells #[.int .i64 qq.b, .int .i64 qq.a, .int .i64 qq.f] 39) [99] (by kernel_rfl) (by kernel_rfl) rfl ?_ rfl ?_
            · intro k hk
              have hc : k = 0 := by omega
              subst hc; rfl
            apply Exists.intro
            refine ⟨fun bs ne => ?_, ?_, ?_⟩
            · have d0 := fun t : Gb wr bs => (t.below.cell (p := ⟨g, o + k * 3, none⟩) lg).trans x0
              have d1 := fun t : Gb wr bs => (t.below.cell (p := ⟨g, o + k * 3 + 1, none⟩) lg).trans x1
              have d2 := fun t : Gb wr bs => (t.below.cell (p := ⟨g, o + k * 3 + 2, none⟩) lg).trans x2
              simp only [List.take_succ_cons, List.take_zero]
              repeat (go_big_quiet_step (fail))
              exact wpQuiet_nil rfl
            · intro i h1 h2
              have hc : i = 17 := by omega
              subst hc
              exact ⟨_, rfl, rfl, fun _ => by kernel_rfl⟩
            intro bl wx hbl hlo _
            obtain ⟨q1, q2⟩ := hlo 17 (by omega) (by omega)
            simp only [R4.layL]
            generalize bl 17 = g0 at *
            clear hlo x0 x1 x2 lg
            have o5 := row_below HO.out.1 hbl
            have b5 := HO.out.2.trans (hbl.mono HO.out.2.size)
            obtain ⟨hi, hz0, hz1, hz2⟩ := HI.out
            refine wpAny_one 18 (by kernel_rfl) rfl ?_
            intro K hK
            refine step_append_lies wx (by rfl) _ _ 22 (by rfl) W6.heap.size 39 i0 (.agg #[.int .i64 0, .int .i64 0, .int .i64 0]) 3 24 Try.underlying22 hi hz0 hz1 hz2 rfl (by decide) (.slice ot k ct) k (flatQ ((L.take k).map trq)) (by rfl) o5 ⟨g0, 0, none⟩ 1 1 [.int .i64 qq.b, .int .i64 qq.a, .int .i64 qq.f] (by rfl) rfl (cell_bk3 q2) (one3 _ _ _) (by decide) (by unfold maxLen; omega) (by omega) b5.size wx.heap.size rfl ?_
            intro h0 cap0 X1 hown hgrow _ _
            have HRel : Hid (OwB W6.heap.size X1 (.slice (some ⟨h0, 0, none⟩) (k + 1) cap0) ((L.take (k + 1)).map trq) ∧ Below W6.heap.size W6 X1) := by
              refine ⟨?_, app_below b5 o5 (Nat.le_refl _) hgrow⟩
              unfold OwB
              rw [HTk.out, List.length_append, flatQ_app, Hlen.out]
              exact hown
            clear hown hgrow o5 b5 q1 q2 hbl hi hz0 hz1 hz2
            refine hK _ _ ?_
            clear hK K
            refine wpAny_one 19 (by kernel_rfl) rfl ?_
            intro K hK
            go_simp
            refine hK _ _ ?_
            clear hK K
            refine wpAny_done (by kernel_rfl) ?_ _
            go_wp2
            exact ⟨⟨k + 1, by go_num, by omega, HRel⟩, by simp [intOf]; omega⟩
          · obtain rfl : k = L.length := by omega
            have F7 : Hid (Below w.heap.size w wr ∧ BS wr u16 (L.map trq)) := ⟨bel_tr F6.out.1 HQ.out.2, by have h := HQ.out.1.bs; rw [List.take_length] at h; exact h⟩
            clear HQ H60
            go_wp2_with fail
            refine (A3.out _ _ F7.out.2).mono ?_
            rintro e w8 ⟨vz, rfl, H8⟩
            have F8 : Hid (Below w.heap.size w w8 ∧ IS w8 vz (solL N (L.map trq))) := ⟨bel_tr F7.out.1 H8.out.2, H8.out.1.is⟩
            clear H8 A3 F7
            go_wp2_with fail
            refine (A4.out _ _ (HV.out.1.below F8.out.1)).mono ?_
            rintro e w9 ⟨vw, rfl, H9⟩
            have F9 : Hid (Below w.heap.size w w9 ∧ IS w9 vz (solL N (L.map trq)) ∧ IS w9 vw (moL N L most)) := ⟨bel_tr F8.out.1 H9.out.2, F8.out.2.below H9.out.2, H9.out.1.is⟩
            clear H9 A4 F8
            by_cases hm : moE N L most = 0
            · obtain ⟨M, hM, hM4, hm0, hm1, eL, eS, hbd⟩ := HMo.out hm
              obtain rfl : N = M := by omega
              rw [hm]
              rw [eL, eS] at F9
              have HBd : Hid (∀ v, 0 ≤ moX N L v ∧ moX N L v ≤ 17592186044416) := hbd
              generalize moX N L = zx at *
              obtain ⟨oz, cz, rfl, hcz, hgz⟩ := is_rows F9.out.2.1
              obtain ⟨ow, cw, rfl, hcw, hgw⟩ := is_rows F9.out.2.2
              have HX : Hid ((0 < N → ∃ g o, oz = some ⟨g, o, none⟩ ∧ g < w9.heap.size ∧ ∀ i, i < N → w9.cell? ⟨g, o + i, none⟩ = some (.int .i64 (zx i))) ∧ (0 < N → ∃ g o, ow = some ⟨g, o, none⟩ ∧ g < w9.heap.size ∧ ∀ i, i < N → w9.cell? ⟨g, o + i, none⟩ = some (.int .i64 (most - zx i)))) := ⟨hgz, hgw⟩
              clear hgz hgw hm eL eS hbd
              go_wp2_with fail
              go_loopw [22] (fun i wr => ∃ k : Nat, i = .int .i64 k ∧ k ≤ N ∧ Hid (Below w9.heap.size w9 wr)) (fun i _ => N - (intOf i).toNat)
              case atStart => exact ⟨0, rfl, Nat.zero_le _, Below.refl _ _⟩
              case round =>
                obtain ⟨k, rfl, hk, HQ⟩ := hrel
                by_cases hlt : k < N
                · have ik : (k : Int) < N := by omega
                  obtain ⟨gz, o1, rfl, hgz1, hgz2⟩ := HX.out.1 (by omega)
                  obtain ⟨gw, o2, rfl, hgw1, hgw2⟩ := HX.out.2 (by omega)
                  have c1 : wr.cell? ⟨gz, o1 + k, none⟩ = some (.int .i64 (zx k)) := (HQ.out.cell (p := ⟨gz, o1 + k, none⟩) hgz1).trans (hgz2 k hlt)
                  have c2 : wr.cell? ⟨gw, o2 + k, none⟩ = some (.int .i64 (most - zx k)) := (HQ.out.cell (p := ⟨gw, o2 + k, none⟩) hgw1).trans (hgw2 k hlt)
                  obtain ⟨b1, b2⟩ := HBd.out k
                  have HW : Hid (∀ m, Below w9.heap.size w9 (wr.drewN m)) := fun m => below_drewN HQ.out
                  generalize zx k = zk at *
                  clear hgz2 hgw2 HQ
                  go_wp2_with fail
                  go_quiet (fail)
                  go_wp2
                  exact ⟨⟨k + 1, by go_num, by omega, HW.out _⟩, by simp [intOf]; omega⟩
                · have ik : ¬ (k : Int) < N := by omega
                  have HF : Hid (Below w.heap.size w wr) := bel_tr F9.out.1 HQ.out
                  clear HQ
                  go_wp2
                  go_ret
                  exact ⟨rfl, HF.out⟩
            · have bm : (moE N L most == 0) = false := by simp [hm]
              generalize moE N L most = em at *
              go_wp2_with fail
              go_loopw [22] (fun i wr => i = .int .i64 0 ∧ Hid (Below w9.heap.size w9 wr)) (fun _ _ => 0)
              case atStart => exact ⟨rfl, Below.refl _ _⟩
              case round =>
                obtain ⟨rfl, HQ⟩ := hrel
                have HF : Hid (Below w.heap.size w wr) := bel_tr F9.out.1 HQ.out
                clear HQ
                have zz2 : (0 : Int) < N ∨ ¬ (0 : Int) < N := by omega
                rcases zz2 with zz2 | zz2
                all_goals
                  go_wp2
                  go_ret
                  exact ⟨rfl, HF.out⟩
  by_cases he : solE n L = 0
  · have hgz : solE n (L.map trq) = 0 := (trq_ok n L).2 he
    have bf : (solE n (L ++ [q]) == 0) = false := by simp [hf]
    rw [he] at A1
    rw [hgz] at A3
    generalize solE n (L ++ [q]) = ef at *
    clear he hgz
    go_enter Try.func7, Try.ntmps7
    go_wp2_with fail
    refine (HA.out _).mono ?_
    rintro e w1 ⟨rfl, hb1⟩
    have F1 : Hid (Below w.heap.size w w1 ∧ BS w1 (.slice oa L.length cap) L) := ⟨bel_tr (C0.out _) hb1, HV.out.1.below (bel_tr (C0.out _) hb1)⟩
    obtain ⟨c0, c1, c2⟩ := (K0.out.below hb1).at3
    have lw : w.heap.size < w1.heap.size := (K0.out.below hb1).lt
    clear hb1 K0 C0
    obtain ⟨hi, hz0, hz1, hz2⟩ := HI.out
    go_wp2_with (at_builtin; refine app_firstQ rfl _ _ rfl i0 Try.underlying22 hi hz0 hz1 hz2 rfl L oa cap rfl F1.out.2 HV.out.2 (by omega) ?_)
    intro v1 w2 H2
    have d0 : w2.cell? ⟨w.heap.size, 0, none⟩ = some (.int .i64 q.a) := (H2.out.2.cell (p := ⟨w.heap.size, 0, none⟩) lw).trans c0
    have d1 : w2.cell? ⟨w.heap.size, 1, none⟩ = some (.int .i64 q.b) := (H2.out.2.cell (p := ⟨w.heap.size, 1, none⟩) lw).trans c1
    have d2 : w2.cell? ⟨w.heap.size, 2, none⟩ = some (.int .i64 q.f) := (H2.out.2.cell (p := ⟨w.heap.size, 2, none⟩) lw).trans c2
    have hc3 : Hid (L.length + 1 ≤ maxLen) := by unfold Hid maxLen; omega
    have hc4 : Hid ((L.length + 1) * 24 ≤ 140737488355328) := by unfold Hid; omega
    have HAl : Hid (∀ o, (w2.alloc o).ownsRow w1.heap.size 39 3 v1 L.length (flatQ L) ∧ Below w1.heap.size w1 (w2.alloc o)) := fun o => ⟨row_below H2.out.1 ((Below.refl _ _).alloc (Nat.le_refl _) _), H2.out.2.alloc H2.out.2.size _⟩
    clear c0 c1 c2 H2
    go_wp2_with (at_builtin; refine wpList_append_own _ rfl _ _ 22 rfl w1.heap.size 39 i0 (.agg #[.int .i64 0, .int .i64 0, .int .i64 0]) 3 24 Try.underlying22 hi hz0 hz1 hz2 rfl (by decide) v1 L.length (flatQ L) rfl (HAl.out _).1 _ 1 1 [.int .i64 q.a, .int .i64 q.b, .int .i64 q.f] rfl rfl (cell_three _ _ _ _ _ _ rfl) (one3 _ _ _) hc3.out hc4.out (HAl.out _).2.size ?_)
    intro v2 w3 hown hgrow _
    have F3 : Hid (Below w.heap.size w w3 ∧ BS w3 (.slice oa L.length cap) L ∧ BS w3 v2 (L ++ [q])) := by
      have b3 : Below w1.heap.size w1 w3 := app_below (HAl.out _).2 (HAl.out _).1 (Nat.le_refl _) hgrow
      refine ⟨bel_tr F1.out.1 b3, F1.out.2.below b3, OwB.bs (lo := w1.heap.size) ?_⟩
      unfold OwB
      rw [flatQ_app, List.length_append]
      exact hown
    clear hown hgrow HAl F1 d0 d1 d2 hi hz0 hz1 hz2 lw
    go_wp2_with fail
    refine (A1.out _ _ F3.out.2.1).mono ?_
    rintro e w4 ⟨vx, rfl, H4⟩
    have F4 : Hid (Below w.heap.size w w4 ∧ BS w4 (.slice oa L.length cap) L ∧ BS w4 v2 (L ++ [q])) := ⟨bel_tr F3.out.1 H4.out.2, F3.out.2.1.below H4.out.2, F3.out.2.2.below H4.out.2⟩
    clear H4 F3 A1
    go_wp2_with fail
    refine (A2.out _ _ F4.out.2.2).mono ?_
    rintro e w5 ⟨vy, rfl, H5⟩
    have F5 : Hid (Below w.heap.size w w5 ∧ BS w5 (.slice oa L.length cap) L) := ⟨bel_tr F4.out.1 H5.out.2, F4.out.2.1.below H5.out.2⟩
    clear H5 F4 A2
    go_wp2_with fail
    (try generalize decide ((200 : Int) < n) = dA)
    (try generalize decide ((400 : Int) < (L.length : Int)) = dB)
    clear i2
    go_loopw [15] (fun i wr => i = .int .i64 0 ∧ Hid (Below w5.heap.size w5 wr)) (fun _ _ => 0)
    case atStart => exact ⟨rfl, Below.refl _ _⟩
    case round =>
      obtain ⟨rfl, HQ⟩ := hrel
      have F6 : Hid (Below w.heap.size w wr ∧ BS wr (.slice oa L.length cap) L) := ⟨bel_tr F5.out.1 HQ.out, F5.out.2.below HQ.out⟩
      clear HQ F5
      have zz : (0 : Int) < n ∨ ¬ (0 : Int) < n := by omega
      rcases zz with zz | zz
      all_goals
        obtain ⟨W6, HW6⟩ : ∃ W6 : World, Hid (W6 = wr) := ⟨wr, by unfold Hid; rfl⟩
        rw [← HW6.out] at F6
        have H60 : Hid (Below W6.heap.size W6 wr) := by rw [HW6.out]; exact Below.refl _ _
        obtain ⟨oa', cap', e', _, hg⟩ := F6.out.2
        injection e' with e1 _ e3
        subst e1 e3
        have HG : Hid (0 < L.length → ∃ g o, oa = some ⟨g, o, none⟩ ∧ g < W6.heap.size ∧ ∀ i (h : i < L.length), BqAt W6 g (o + i * 3) L[i]) := hg
        clear hg
        go_wp2_with fail
        go_loopw [16, 17] (fun t i wr => ∃ k : Nat, i = .int .i64 k ∧ k ≤ L.length ∧ Hid (OwB W6.heap.size wr t ((L.take k).map trq) ∧ Below W6.heap.size W6 wr)) (fun _ i _ => L.length - (intOf i).toNat)
        case atStart => exact ⟨0, rfl, Nat.zero_le _, OwB.nil _ _, H60.out⟩
        case round =>
          obtain ⟨k, rfl, hk, HQ⟩ := hrel
          by_cases hlt : k < L.length
          · have ik : (k : Int) < L.length := by omega
            obtain ⟨g, o, rfl, hgl, hat⟩ := HG.out (by omega)
            have hx := (hat k hlt).below HQ.out.2 hgl
            obtain ⟨x0, x1, x2⟩ := hx
            have lg : g < wr.heap.size := Nat.lt_of_lt_of_le hgl HQ.out.2.size
            have Hlen : Hid (((L.take k).map trq).length = k) := by unfold Hid; simp; omega
            have hown : wr.ownsRow W6.heap.size 39 3 u16 k (flatQ ((L.take k).map trq)) := by have h := HQ.out.1; unfold OwB at h; rw [Hlen.out] at h; exact h
            obtain ⟨ot, ct, rfl, _, _⟩ := row_val hown
            have HO : Hid (wr.ownsRow W6.heap.size 39 3 (.slice ot k ct) k (flatQ ((L.take k).map trq)) ∧ Below W6.heap.size W6 wr) := ⟨hown, HQ.out.2⟩
            have HTk : Hid ((L.take (k + 1)).map trq = (L.take k).map trq ++ [trq L[k]]) := by unfold Hid; rw [← List.take_append_getElem hlt, List.map_append]; rfl
            clear HQ hat hown
            generalize L[k] = qq at *
            go_wp2_with fail
            refine R4.wp_region_lit 17 1 2 (fun _ b => .slice (some ⟨b, 0, none⟩) 1 1) (fun _ => .cells #[.int .i64 qq.b, .int .i64 qq.a, .int .i64 qq.f] 39) [99] (by kernel_rfl) (by kernel_rfl) rfl ?_ rfl ?_
            · intro k hk
              have hc : k = 0 := by omega
              subst hc; rfl
            apply Exists.intro
            refine ⟨fun bs ne => ?_, ?_, ?_⟩
            · have d0 := fun t : Gb wr bs => (t.below.cell (p := ⟨g, o + k * 3, none⟩) lg).trans x0
              have d1 := fun t : Gb wr bs => (t.below.cell (p := ⟨g, o + k * 3 + 1, none⟩) lg).trans x1
              have d2 := fun t : Gb wr bs => (t.below.cell (p := ⟨g, o + k * 3 + 2, none⟩) lg).trans x2
              simp only [List.take_succ_cons, List.take_zero]
              repeat (go_big_quiet_step (fail))
              exact wpQuiet_nil rfl
            · intro i h1 h2
              have hc : i = 17 := by omega
              subst hc
              exact ⟨_, rfl, rfl, fun _ => by kernel_rfl⟩
            intro bl wx hbl hlo _
            obtain ⟨q1, q2⟩ := hlo 17 (by omega) (by omega)
            simp only [R4.layL]
            generalize bl 17 = g0 at *
            clear hlo x0 x1 x2 lg
            have o5 := row_below HO.out.1 hbl
            have b5 := HO.out.2.trans (hbl.mono HO.out.2.size)
            obtain ⟨hi, hz0, hz1, hz2⟩ := HI.out
            refine wpAny_one 18 (by kernel_rfl) rfl ?_
            intro K hK
            refine step_append_lies wx (by rfl) _ _ 22 (by rfl) W6.heap.size 39 i0 (.agg #[.int .i64 0, .int .i64 0, .int .i64 0]) 3 24 Try.underlying22 hi hz0 hz1 hz2 rfl (by decide) (.slice ot k ct) k (flatQ ((L.take k).map trq)) (by rfl) o5 ⟨g0, 0, none⟩ 1 1 [.int .i64 qq.b, .int .i64 qq.a, .int .i64 qq.f] (by rfl) rfl (cell_bk3 q2) (one3 _ _ _) (by decide) (by unfold maxLen; omega) (by omega) b5.size wx.heap.size rfl ?_
            intro h0 cap0 X1 hown hgrow _ _
            have HRel : Hid (OwB W6.heap.size X1 (.slice (some ⟨h0, 0, none⟩) (k + 1) cap0) ((L.take (k + 1)).map trq) ∧ Below W6.heap.size W6 X1) := by
              refine ⟨?_, app_below b5 o5 (Nat.le_refl _) hgrow⟩
              unfold OwB
              rw [HTk.out, List.length_append, flatQ_app, Hlen.out]
              exact hown
            clear hown hgrow o5 b5 q1 q2 hbl hi hz0 hz1 hz2
            refine hK _ _ ?_
            clear hK K
            refine wpAny_one 19 (by kernel_rfl) rfl ?_
            intro K hK
            go_simp
            refine hK _ _ ?_
            clear hK K
            refine wpAny_done (by kernel_rfl) ?_ _
            go_wp2
            exact ⟨⟨k + 1, by go_num, by omega, HRel⟩, by simp [intOf]; omega⟩
          · obtain rfl : k = L.length := by omega
            have F7 : Hid (Below w.heap.size w wr ∧ BS wr u16 (L.map trq)) := ⟨bel_tr F6.out.1 HQ.out.2, by have h := HQ.out.1.bs; rw [List.take_length] at h; exact h⟩
            clear HQ H60
            go_wp2_with fail
            refine (A3.out _ _ F7.out.2).mono ?_
            rintro e w8 ⟨vz, rfl, H8⟩
            have F8 : Hid (Below w.heap.size w w8 ∧ IS w8 vz (solL n (L.map trq))) := ⟨bel_tr F7.out.1 H8.out.2, H8.out.1.is⟩
            clear H8 A3 F7
            go_wp2_with fail
            refine (A4.out _ _ (HV.out.1.below F8.out.1)).mono ?_
            rintro e w9 ⟨vw, rfl, H9⟩
            have F9 : Hid (Below w.heap.size w w9 ∧ IS w9 vz (solL n (L.map trq)) ∧ IS w9 vw (moL n L most)) := ⟨bel_tr F8.out.1 H9.out.2, F8.out.2.below H9.out.2, H9.out.1.is⟩
            clear H9 A4 F8
            by_cases hm : moE n L most = 0
            · obtain ⟨M, hM, hM4, hm0, hm1, eL, eS, hbd⟩ := HMo.out hm
              subst hM
              rw [hm]
              rw [eL, eS] at F9
              have HBd : Hid (∀ v, 0 ≤ moX M L v ∧ moX M L v ≤ 17592186044416) := hbd
              generalize moX M L = zx at *
              obtain ⟨oz, cz, rfl, hcz, hgz⟩ := is_rows F9.out.2.1
              obtain ⟨ow, cw, rfl, hcw, hgw⟩ := is_rows F9.out.2.2
              have HX : Hid ((0 < M → ∃ g o, oz = some ⟨g, o, none⟩ ∧ g < w9.heap.size ∧ ∀ i, i < M → w9.cell? ⟨g, o + i, none⟩ = some (.int .i64 (zx i))) ∧ (0 < M → ∃ g o, ow = some ⟨g, o, none⟩ ∧ g < w9.heap.size ∧ ∀ i, i < M → w9.cell? ⟨g, o + i, none⟩ = some (.int .i64 (most - zx i)))) := ⟨hgz, hgw⟩
              clear hgz hgw hm eL eS hbd
              go_wp2_with fail
              go_loopw [22] (fun i wr => ∃ k : Nat, i = .int .i64 k ∧ k ≤ M ∧ Hid (Below w9.heap.size w9 wr)) (fun i _ => M - (intOf i).toNat)
              case atStart => exact ⟨0, rfl, Nat.zero_le _, Below.refl _ _⟩
              case round =>
                obtain ⟨k, rfl, hk, HQ⟩ := hrel
                by_cases hlt : k < M
                · have ik : (k : Int) < M := by omega
                  obtain ⟨gz, o1, rfl, hgz1, hgz2⟩ := HX.out.1 (by omega)
                  obtain ⟨gw, o2, rfl, hgw1, hgw2⟩ := HX.out.2 (by omega)
                  have c1 : wr.cell? ⟨gz, o1 + k, none⟩ = some (.int .i64 (zx k)) := (HQ.out.cell (p := ⟨gz, o1 + k, none⟩) hgz1).trans (hgz2 k hlt)
                  have c2 : wr.cell? ⟨gw, o2 + k, none⟩ = some (.int .i64 (most - zx k)) := (HQ.out.cell (p := ⟨gw, o2 + k, none⟩) hgw1).trans (hgw2 k hlt)
                  obtain ⟨b1, b2⟩ := HBd.out k
                  have HW : Hid (∀ m, Below w9.heap.size w9 (wr.drewN m)) := fun m => below_drewN HQ.out
                  generalize zx k = zk at *
                  clear hgz2 hgw2 HQ
                  go_wp2_with fail
                  go_quiet (fail)
                  go_wp2
                  exact ⟨⟨k + 1, by go_num, by omega, HW.out _⟩, by simp [intOf]; omega⟩
                · have ik : ¬ (k : Int) < M := by omega
                  have HF : Hid (Below w.heap.size w wr) := bel_tr F9.out.1 HQ.out
                  clear HQ
                  go_wp2
                  go_ret
                  exact ⟨rfl, HF.out⟩
            · have bm : (moE n L most == 0) = false := by simp [hm]
              generalize moE n L most = em at *
              go_wp2_with fail
              go_loopw [22] (fun i wr => i = .int .i64 0 ∧ Hid (Below w9.heap.size w9 wr)) (fun _ _ => 0)
              case atStart => exact ⟨rfl, Below.refl _ _⟩
              case round =>
                obtain ⟨rfl, HQ⟩ := hrel
                have HF : Hid (Below w.heap.size w wr) := bel_tr F9.out.1 HQ.out
                clear HQ
                have zz2 : (0 : Int) < n ∨ ¬ (0 : Int) < n := by omega
                rcases zz2 with zz2 | zz2
                all_goals
                  go_wp2
                  go_ret
                  exact ⟨rfl, HF.out⟩
  · have hgz : ¬ solE n (L.map trq) = 0 := fun h => he ((trq_ok n L).1 h)
    have bf : (solE n (L ++ [q]) == 0) = false := by simp [hf]
    have be : (solE n L == 0) = false := by simp [he]
    have bg : (solE n (L.map trq) == 0) = false := by simp [hgz]
    generalize solE n (L ++ [q]) = ef at *
    generalize solE n L = ee at *
    generalize solE n (L.map trq) = eg at *
    go_enter Try.func7, Try.ntmps7
    go_wp2_with fail
    refine (HA.out _).mono ?_
    rintro e w1 ⟨rfl, hb1⟩
    have F1 : Hid (Below w.heap.size w w1 ∧ BS w1 (.slice oa L.length cap) L) := ⟨bel_tr (C0.out _) hb1, HV.out.1.below (bel_tr (C0.out _) hb1)⟩
    obtain ⟨c0, c1, c2⟩ := (K0.out.below hb1).at3
    have lw : w.heap.size < w1.heap.size := (K0.out.below hb1).lt
    clear hb1 K0 C0
    obtain ⟨hi, hz0, hz1, hz2⟩ := HI.out
    go_wp2_with (at_builtin; refine app_firstQ rfl _ _ rfl i0 Try.underlying22 hi hz0 hz1 hz2 rfl L oa cap rfl F1.out.2 HV.out.2 (by omega) ?_)
    intro v1 w2 H2
    have d0 : w2.cell? ⟨w.heap.size, 0, none⟩ = some (.int .i64 q.a) := (H2.out.2.cell (p := ⟨w.heap.size, 0, none⟩) lw).trans c0
    have d1 : w2.cell? ⟨w.heap.size, 1, none⟩ = some (.int .i64 q.b) := (H2.out.2.cell (p := ⟨w.heap.size, 1, none⟩) lw).trans c1
    have d2 : w2.cell? ⟨w.heap.size, 2, none⟩ = some (.int .i64 q.f) := (H2.out.2.cell (p := ⟨w.heap.size, 2, none⟩) lw).trans c2
    have hc3 : Hid (L.length + 1 ≤ maxLen) := by unfold Hid maxLen; omega
    have hc4 : Hid ((L.length + 1) * 24 ≤ 140737488355328) := by unfold Hid; omega
    have HAl : Hid (∀ o, (w2.alloc o).ownsRow w1.heap.size 39 3 v1 L.length (flatQ L) ∧ Below w1.heap.size w1 (w2.alloc o)) := fun o => ⟨row_below H2.out.1 ((Below.refl _ _).alloc (Nat.le_refl _) _), H2.out.2.alloc H2.out.2.size _⟩
    clear c0 c1 c2 H2
    go_wp2_with (at_builtin; refine wpList_append_own _ rfl _ _ 22 rfl w1.heap.size 39 i0 (.agg #[.int .i64 0, .int .i64 0, .int .i64 0]) 3 24 Try.underlying22 hi hz0 hz1 hz2 rfl (by decide) v1 L.length (flatQ L) rfl (HAl.out _).1 _ 1 1 [.int .i64 q.a, .int .i64 q.b, .int .i64 q.f] rfl rfl (cell_three _ _ _ _ _ _ rfl) (one3 _ _ _) hc3.out hc4.out (HAl.out _).2.size ?_)
    intro v2 w3 hown hgrow _
    have F3 : Hid (Below w.heap.size w w3 ∧ BS w3 (.slice oa L.length cap) L ∧ BS w3 v2 (L ++ [q])) := by
      have b3 : Below w1.heap.size w1 w3 := app_below (HAl.out _).2 (HAl.out _).1 (Nat.le_refl _) hgrow
      refine ⟨bel_tr F1.out.1 b3, F1.out.2.below b3, OwB.bs (lo := w1.heap.size) ?_⟩
      unfold OwB
      rw [flatQ_app, List.length_append]
      exact hown
    clear hown hgrow HAl F1 d0 d1 d2 hi hz0 hz1 hz2 lw
    go_wp2_with fail
    refine (A1.out _ _ F3.out.2.1).mono ?_
    rintro e w4 ⟨vx, rfl, H4⟩
    have F4 : Hid (Below w.heap.size w w4 ∧ BS w4 (.slice oa L.length cap) L ∧ BS w4 v2 (L ++ [q])) := ⟨bel_tr F3.out.1 H4.out.2, F3.out.2.1.below H4.out.2, F3.out.2.2.below H4.out.2⟩
    clear H4 F3 A1
    go_wp2_with fail
    refine (A2.out _ _ F4.out.2.2).mono ?_
    rintro e w5 ⟨vy, rfl, H5⟩
    have F5 : Hid (Below w.heap.size w w5 ∧ BS w5 (.slice oa L.length cap) L) := ⟨bel_tr F4.out.1 H5.out.2, F4.out.2.1.below H5.out.2⟩
    clear H5 F4 A2
    go_wp2_with fail
    (try generalize decide ((200 : Int) < n) = dA)
    (try generalize decide ((400 : Int) < (L.length : Int)) = dB)
    clear i2
    go_loopw [15] (fun i wr => i = .int .i64 0 ∧ Hid (Below w5.heap.size w5 wr)) (fun _ _ => 0)
    case atStart => exact ⟨rfl, Below.refl _ _⟩
    case round =>
      obtain ⟨rfl, HQ⟩ := hrel
      have F6 : Hid (Below w.heap.size w wr ∧ BS wr (.slice oa L.length cap) L) := ⟨bel_tr F5.out.1 HQ.out, F5.out.2.below HQ.out⟩
      clear HQ F5
      have zz : (0 : Int) < n ∨ ¬ (0 : Int) < n := by omega
      rcases zz with zz | zz
      all_goals
        obtain ⟨W6, HW6⟩ : ∃ W6 : World, Hid (W6 = wr) := ⟨wr, by unfold Hid; rfl⟩
        rw [← HW6.out] at F6
        have H60 : Hid (Below W6.heap.size W6 wr) := by rw [HW6.out]; exact Below.refl _ _
        obtain ⟨oa', cap', e', _, hg⟩ := F6.out.2
        injection e' with e1 _ e3
        subst e1 e3
        have HG : Hid (0 < L.length → ∃ g o, oa = some ⟨g, o, none⟩ ∧ g < W6.heap.size ∧ ∀ i (h : i < L.length), BqAt W6 g (o + i * 3) L[i]) := hg
        clear hg
        go_wp2_with fail
        go_loopw [16, 17] (fun t i wr => ∃ k : Nat, i = .int .i64 k ∧ k ≤ L.length ∧ Hid (OwB W6.heap.size wr t ((L.take k).map trq) ∧ Below W6.heap.size W6 wr)) (fun _ i _ => L.length - (intOf i).toNat)
        case atStart => exact ⟨0, rfl, Nat.zero_le _, OwB.nil _ _, H60.out⟩
        case round =>
          obtain ⟨k, rfl, hk, HQ⟩ := hrel
          by_cases hlt : k < L.length
          · have ik : (k : Int) < L.length := by omega
            obtain ⟨g, o, rfl, hgl, hat⟩ := HG.out (by omega)
            have hx := (hat k hlt).below HQ.out.2 hgl
            obtain ⟨x0, x1, x2⟩ := hx
            have lg : g < wr.heap.size := Nat.lt_of_lt_of_le hgl HQ.out.2.size
            have Hlen : Hid (((L.take k).map trq).length = k) := by unfold Hid; simp; omega
            have hown : wr.ownsRow W6.heap.size 39 3 u16 k (flatQ ((L.take k).map trq)) := by have h := HQ.out.1; unfold OwB at h; rw [Hlen.out] at h; exact h
            obtain ⟨ot, ct, rfl, _, _⟩ := row_val hown
            have HO : Hid (wr.ownsRow W6.heap.size 39 3 (.slice ot k ct) k (flatQ ((L.take k).map trq)) ∧ Below W6.heap.size W6 wr) := ⟨hown, HQ.out.2⟩
            have HTk : Hid ((L.take (k + 1)).map trq = (L.take k).map trq ++ [trq L[k]]) := by unfold Hid; rw [← List.take_append_getElem hlt, List.map_append]; rfl
            clear HQ hat hown
            generalize L[k] = qq at *
            go_wp2_with fail
            refine R4.wp_region_lit 17 1 2 (fun _ b => .slice (some ⟨b, 0, none⟩) 1 1) (fun _ => .cells #[.int .i64 qq.b, .int .i64 qq.a, .int .i64 qq.f] 39) [99] (by kernel_rfl) (by kernel_rfl) rfl ?_ rfl ?_
            · intro k hk
              have hc : k = 0 := by omega
              subst hc; rfl
            apply Exists.intro
            refine ⟨fun bs ne => ?_, ?_, ?_⟩
            · have d0 := fun t : Gb wr bs => (t.below.cell (p := ⟨g, o + k * 3, none⟩) lg).trans x0
              have d1 := fun t : Gb wr bs => (t.below.cell (p := ⟨g, o + k * 3 + 1, none⟩) lg).trans x1
              have d2 := fun t : Gb wr bs => (t.below.cell (p := ⟨g, o + k * 3 + 2, none⟩) lg).trans x2
              simp only [List.take_succ_cons, List.take_zero]
              repeat (go_big_quiet_step (fail))
              exact wpQuiet_nil rfl
            · intro i h1 h2
              have hc : i = 17 := by omega
              subst hc
              exact ⟨_, rfl, rfl, fun _ => by kernel_rfl⟩
            intro bl wx hbl hlo _
            obtain ⟨q1, q2⟩ := hlo 17 (by omega) (by omega)
            simp only [R4.layL]
            generalize bl 17 = g0 at *
            clear hlo x0 x1 x2 lg
            have o5 := row_below HO.out.1 hbl
            have b5 := HO.out.2.trans (hbl.mono HO.out.2.size)
            obtain ⟨hi, hz0, hz1, hz2⟩ := HI.out
            refine wpAny_one 18 (by kernel_rfl) rfl ?_
            intro K hK
            refine step_append_lies wx (by rfl) _ _ 22 (by rfl) W6.heap.size 39 i0 (.agg #[.int .i64 0, .int .i64 0, .int .i64 0]) 3 24 Try.underlying22 hi hz0 hz1 hz2 rfl (by decide) (.slice ot k ct) k (flatQ ((L.take k).map trq)) (by rfl) o5 ⟨g0, 0, none⟩ 1 1 [.int .i64 qq.b, .int .i64 qq.a, .int .i64 qq.f] (by rfl) rfl (cell_bk3 q2) (one3 _ _ _) (by decide) (by unfold maxLen; omega) (by omega) b5.size wx.heap.size rfl ?_
            intro h0 cap0 X1 hown hgrow _ _
            have HRel : Hid (OwB W6.heap.size X1 (.slice (some ⟨h0, 0, none⟩) (k + 1) cap0) ((L.take (k + 1)).map trq) ∧ Below W6.heap.size W6 X1) := by
              refine ⟨?_, app_below b5 o5 (Nat.le_refl _) hgrow⟩
              unfold OwB
              rw [HTk.out, List.length_append, flatQ_app, Hlen.out]
              exact hown
            clear hown hgrow o5 b5 q1 q2 hbl hi hz0 hz1 hz2
            refine hK _ _ ?_
            clear hK K
            refine wpAny_one 19 (by kernel_rfl) rfl ?_
            intro K hK
            go_simp
            refine hK _ _ ?_
            clear hK K
            refine wpAny_done (by kernel_rfl) ?_ _
            go_wp2
            exact ⟨⟨k + 1, by go_num, by omega, HRel⟩, by simp [intOf]; omega⟩
          · obtain rfl : k = L.length := by omega
            have F7 : Hid (Below w.heap.size w wr ∧ BS wr u16 (L.map trq)) := ⟨bel_tr F6.out.1 HQ.out.2, by have h := HQ.out.1.bs; rw [List.take_length] at h; exact h⟩
            clear HQ H60
            go_wp2_with fail
            refine (A3.out _ _ F7.out.2).mono ?_
            rintro e w8 ⟨vz, rfl, H8⟩
            have F8 : Hid (Below w.heap.size w w8 ∧ IS w8 vz (solL n (L.map trq))) := ⟨bel_tr F7.out.1 H8.out.2, H8.out.1.is⟩
            clear H8 A3 F7
            go_wp2_with fail
            refine (A4.out _ _ (HV.out.1.below F8.out.1)).mono ?_
            rintro e w9 ⟨vw, rfl, H9⟩
            have F9 : Hid (Below w.heap.size w w9 ∧ IS w9 vz (solL n (L.map trq)) ∧ IS w9 vw (moL n L most)) := ⟨bel_tr F8.out.1 H9.out.2, F8.out.2.below H9.out.2, H9.out.1.is⟩
            clear H9 A4 F8
            generalize moE n L most = em at *
            go_wp2_with fail
            go_loopw [22] (fun i wr => i = .int .i64 0 ∧ Hid (Below w9.heap.size w9 wr)) (fun _ _ => 0)
            case atStart => exact ⟨rfl, Below.refl _ _⟩
            case round =>
              obtain ⟨rfl, HQ⟩ := hrel
              have HF : Hid (Below w.heap.size w wr) := bel_tr F9.out.1 HQ.out
              clear HQ
              have zz2 : (0 : Int) < n ∨ ¬ (0 : Int) < n := by omega
              rcases zz2 with zz2 | zz2
              all_goals
                go_wp2
                go_ret
                exact ⟨rfl, HF.out⟩

end Go.Proofs.Ytjamkbhplejolaa
