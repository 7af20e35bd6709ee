/-
  The walks of LeastSolve and LeastKeeps.
-/
import Derived.Test.YtjamkbhplejolaaLW
import Derived.Test.YtjamkbhplejolaaLP5
namespace Go.Proofs.Ytjamkbhplejolaa
open Go.RowKit

theorem sol_len (n : Int) (L : List Bq) : (solL n L).length ≤ 4096 := by
  unfold solL
  split
  · next h =>
    obtain ⟨_, h2, _, _⟩ := chk_zero h
    unfold slL
    split
    · rw [rowN_len]; omega
    · simp
  · simp
theorem tg_len (n : Int) (L : List Bq) : (tgL n L).length ≤ 4096 := by
  unfold tgL
  split
  · next h =>
    have h0 := (solE_zero h).1
    obtain ⟨_, _, h3, _⟩ := chk_zero h0
    have := tgA_len (rds (nat L) n.toNat rs0).x 0 (nat L)
    rw [nat_len] at this
    omega
  · simp
theorem lop_len (n : Int) (L : List Bq) : (LopL n L).length ≤ 4096 := by
  unfold LopL
  split
  · next h =>
    obtain ⟨_, h2, _, h4⟩ := chk_zero h
    obtain ⟨N, rfl⟩ : ∃ N : Nat, n = N := ⟨n.toNat, by omega⟩
    have hab := nat_abt h4
    rw [Int.toNat_natCast]
    unfold lopL
    split
    · simp
    · next v hv =>
      have := (lop_nice hab (lpf_of hab hv (last_lt hab hv).2)).len
      rw [toI_len]
      unfold bakL
      omega
  · simp
theorem mo_len (n : Int) (L : List Bq) (most : Int) : (moL n L most).length ≤ 4096 := by
  unfold moL
  split
  · next h =>
    have h0 : chk n L = 0 := by
      unfold moE at h
      split at h
      · next h0 => exact h0
      · next h0 => exact absurd h h0
    obtain ⟨_, h2, _, _⟩ := chk_zero h0
    rw [rowN_len]; omega
  · simp

set_option maxRecDepth 10000 in
set_option maxHeartbeats 8000000 in
theorem solve_walk (n : Int) (L : List Bq) (v : Value) (w : World) (hv : BS w v L) (hnn : NoNil v) (hl : L.length ≤ 1048576) :
    Calls Try.prog 3 #[.int .i64 n, v] w fun e w' => e = .returned (.bool true) ∧ Below w.heap.size w w' := by
  have HA : Hid (Calls Try.prog 9 #[] w fun e w' => e = .returned (.bool true) ∧ Below w.heap.size w w') := awake_any w
  have HV : Hid (BS w v L ∧ NoNil v) := ⟨hv, hnn⟩
  obtain ⟨oa, cap, rfl, hc, _⟩ := id hv
  have HLg : Hid (∀ W, Calls Try.prog 10 #[.int .i64 n, .slice oa L.length cap] W fun e w' => e = .returned (.bool (larB n L.length)) ∧ w' = W) := fun W => large_any n oa L.length cap W
  have HLe : Hid (∀ W, Below w.heap.size w W → Calls Try.prog 11 #[.slice oa L.length cap] W fun e w' => ∃ u, e = .returned u ∧ Lent W.heap.size w'.heap.size w' u L ∧ Below W.heap.size W w') := fun W h => lent_any L _ W (hv.below h) hnn (by omega)
  have A1 : Hid (∀ W y, BS W y L → Calls Try.prog 12 #[.int .i64 n, y] W fun e w' => AnsI W (solL n L) (solE n L) e w') := fun W y h => Solve_any n L y W h
  have A2 : Hid (∀ W y, BS W y L → Calls Try.prog 13 #[.int .i64 n, y] W fun e w' => AnsI W (solL n L) (solE n L) e w') := fun W y h => rSolve_any n L y W h
  have A3 : Hid (∀ W y, BS W y L → Calls Try.prog 14 #[.int .i64 n, y] W fun e w' => AnsI W (LopL n L) (chk n L) e w') := fun W y h => Loop_any n L y W h
  have A4 : Hid (∀ W y, BS W y L → Calls Try.prog 15 #[.int .i64 n, y] W fun e w' => AnsI W (LopL n L) (chk n L) e w') := fun W y h => rLoop_any n L y W h
  have A5 : Hid (∀ W y, BS W y L → Calls Try.prog 16 #[.int .i64 n, y] W fun e w' => AnsI W (tgL n L) (solE n L) e w') := fun W y h => Tight_any n L y W h
  have A6 : Hid (∀ W y, BS W y L → Calls Try.prog 17 #[.int .i64 n, y] W fun e w' => AnsI W (tgL n L) (solE n L) e w') := fun W y h => rTight_any n L y W h
  have A7 : Hid (∀ W u y xs, xs.length ≤ 4096 → IS W u xs → IS W y xs → Calls Try.prog 18 #[u, y] W fun e w' => e = .returned (.bool true) ∧ Below W.heap.size W w') := fun W u y xs hl h k => by
    have q := same_any xs xs u y W h k (by omega)
    rw [decide_eq_true rfl] at q
    exact q
  have A8 : Hid (∀ W lo hi u, Below w.heap.size w W → Lent lo hi W u L → Calls Try.prog 20 #[u, .slice oa L.length cap] W fun e w' => e = .returned (.bool true) ∧ Below W.heap.size W w') := fun W lo hi u h k => keptQ_any lo hi L u _ W k (hv.below h) (by omega)
  have A9 : Hid (∀ W lo hi u xs, xs.length ≤ 4096 → lo ≤ W.heap.size → RwI lo hi W u xs → Calls Try.prog 19 #[u] W fun e w' => e = .returned (.tuple #[]) ∧ W.grownBy w' u.ownBlock) := fun W lo hi u xs hl hlo k => spoil_any lo xs u W k.1 hlo (by omega)
  have l1 := sol_len n L
  have l2 := tg_len n L
  have l3 := lop_len n L
  have HL1 : Hid ((solL n L).length ≤ 4096 ∧ (tgL n L).length ≤ 4096 ∧ (LopL n L).length ≤ 4096) := ⟨l1, l2, l3⟩
  generalize solL n L = xs at *
  generalize solE n L = er at *
  generalize LopL n L = ys at *
  generalize chk n L = ec at *
  generalize tgL n L = zs at *
  clear hv hnn l1 l2 l3
  cases hlg : larB n L.length
  · rw [hlg] at HLg
    clear hlg
    go_enter Try.func3, Try.ntmps3
    go_wp2_with fail
    refine HA.out.mono ?_
    rintro e w1 ⟨rfl, hb1⟩
    have F1 : Hid (Below w.heap.size w w1) := hb1
    clear hb1
    go_wp2_with fail
    refine (HLg.out _).mono ?_
    rintro e w1' ⟨rfl, rfl⟩
    go_wp2_with fail
    refine (HLe.out _ F1.out).mono ?_
    rintro e w2 ⟨vm, rfl, hm2, hb2⟩
    have F2 : Hid (Below w.heap.size w w2 ∧ Lent w1'.heap.size w2.heap.size w2 vm L ∧ w.heap.size ≤ w1'.heap.size) := ⟨bel_tr F1.out hb2, hm2, F1.out.size⟩
    clear hb2 hm2 F1 HLe
    go_wp2_with fail
    refine (A1.out _ _ F2.out.2.1.bs).mono ?_
    rintro e w3 ⟨va, rfl, H3⟩
    have F3 : Hid (Below w.heap.size w w3 ∧ Lent w1'.heap.size w2.heap.size w3 vm L ∧ w.heap.size ≤ w1'.heap.size ∧ w.heap.size ≤ w2.heap.size ∧ RwI w2.heap.size w3.heap.size w3 va xs ∧ w2.heap.size ≤ w3.heap.size) := ⟨bel_tr F2.out.1 H3.out.2, F2.out.2.1.below H3.out.2, F2.out.2.2, F2.out.1.size, rwi_of H3.out.1, H3.out.2.size⟩
    clear H3 F2
    go_wp2_with fail
    refine (A2.out _ _ (HV.out.1.below F3.out.1)).mono ?_
    rintro e w4 ⟨vs, rfl, H4⟩
    have F4 : Hid (Below w.heap.size w w4 ∧ Lent w1'.heap.size w2.heap.size w4 vm L ∧ w.heap.size ≤ w2.heap.size ∧ RwI w2.heap.size w3.heap.size w4 va xs ∧ w2.heap.size ≤ w3.heap.size ∧ RwI w3.heap.size w4.heap.size w4 vs xs ∧ w3.heap.size ≤ w4.heap.size) := ⟨bel_tr F3.out.1 H4.out.2, F3.out.2.1.below H4.out.2, F3.out.2.2.2.1, F3.out.2.2.2.2.1.below H4.out.2, F3.out.2.2.2.2.2, rwi_of H4.out.1, H4.out.2.size⟩
    clear H4 F3 A2
    go_wp2_with fail
    refine (A3.out _ _ F4.out.2.1.bs).mono ?_
    rintro e w5 ⟨vb, rfl, H5⟩
    have F5 : Hid (Below w.heap.size w w5 ∧ Lent w1'.heap.size w2.heap.size w5 vm L ∧ w.heap.size ≤ w2.heap.size ∧ RwI w2.heap.size w3.heap.size w5 va xs ∧ w2.heap.size ≤ w3.heap.size ∧ RwI w3.heap.size w4.heap.size w5 vs xs ∧ w3.heap.size ≤ w4.heap.size ∧ RwI w4.heap.size w5.heap.size w5 vb ys ∧ w4.heap.size ≤ w5.heap.size) := ⟨bel_tr F4.out.1 H5.out.2, F4.out.2.1.below H5.out.2, F4.out.2.2.1, F4.out.2.2.2.1.below H5.out.2, F4.out.2.2.2.2.1, F4.out.2.2.2.2.2.1.below H5.out.2, F4.out.2.2.2.2.2.2, rwi_of H5.out.1, H5.out.2.size⟩
    clear H5 F4 A3
    go_wp2_with fail
    refine (A4.out _ _ (HV.out.1.below F5.out.1)).mono ?_
    rintro e w6 ⟨vl, rfl, H6⟩
    have F6 : Hid (Below w.heap.size w w6 ∧ Lent w1'.heap.size w2.heap.size w6 vm L ∧ w.heap.size ≤ w2.heap.size ∧ RwI w2.heap.size w3.heap.size w6 va xs ∧ w2.heap.size ≤ w3.heap.size ∧ RwI w3.heap.size w4.heap.size w6 vs xs ∧ w3.heap.size ≤ w4.heap.size ∧ RwI w4.heap.size w5.heap.size w6 vb ys ∧ w4.heap.size ≤ w5.heap.size ∧ IS w6 vl ys ∧ w5.heap.size ≤ w6.heap.size) := ⟨bel_tr F5.out.1 H6.out.2, F5.out.2.1.below H6.out.2, F5.out.2.2.1, F5.out.2.2.2.1.below H6.out.2, F5.out.2.2.2.2.1, F5.out.2.2.2.2.2.1.below H6.out.2, F5.out.2.2.2.2.2.2.1, F5.out.2.2.2.2.2.2.2.1.below H6.out.2, F5.out.2.2.2.2.2.2.2.2, H6.out.1.is, H6.out.2.size⟩
    clear H6 F5 A4
    go_wp2_with fail
    refine (A5.out _ _ F6.out.2.1.bs).mono ?_
    rintro e w7 ⟨vc, rfl, H7⟩
    have F7 : Hid (Below w.heap.size w w7 ∧ Lent w1'.heap.size w2.heap.size w7 vm L ∧ w.heap.size ≤ w2.heap.size ∧ RwI w2.heap.size w3.heap.size w7 va xs ∧ w2.heap.size ≤ w3.heap.size ∧ RwI w3.heap.size w4.heap.size w7 vs xs ∧ w3.heap.size ≤ w4.heap.size ∧ RwI w4.heap.size w5.heap.size w7 vb ys ∧ w4.heap.size ≤ w5.heap.size ∧ IS w7 vl ys ∧ w5.heap.size ≤ w6.heap.size ∧ RwI w6.heap.size w7.heap.size w7 vc zs ∧ w6.heap.size ≤ w7.heap.size) := ⟨bel_tr F6.out.1 H7.out.2, F6.out.2.1.below H7.out.2, F6.out.2.2.1, F6.out.2.2.2.1.below H7.out.2, F6.out.2.2.2.2.1, F6.out.2.2.2.2.2.1.below H7.out.2, F6.out.2.2.2.2.2.2.1, F6.out.2.2.2.2.2.2.2.1.below H7.out.2, F6.out.2.2.2.2.2.2.2.2.1, F6.out.2.2.2.2.2.2.2.2.2.1.below H7.out.2, F6.out.2.2.2.2.2.2.2.2.2.2, rwi_of H7.out.1, H7.out.2.size⟩
    clear H7 F6 A5
    go_wp2_with fail
    refine (A6.out _ _ (HV.out.1.below F7.out.1)).mono ?_
    rintro e w8 ⟨vt, rfl, H8⟩
    obtain ⟨f1, f2, f3, f4, f5, f6, f7, f8, f9, f10, f11, f12, f13⟩ := F7.out
    have G0 : Hid (w.heap.size ≤ w2.heap.size ∧ w2.heap.size ≤ w3.heap.size ∧ w3.heap.size ≤ w4.heap.size ∧ w4.heap.size ≤ w5.heap.size ∧ w5.heap.size ≤ w6.heap.size ∧ w6.heap.size ≤ w7.heap.size ∧ w7.heap.size ≤ w8.heap.size) := ⟨f3, f5, f7, f9, f11, f13, H8.out.2.size⟩
    have F8 : Hid (Below w.heap.size w w8 ∧ Lent w1'.heap.size w2.heap.size w8 vm L ∧ RwI w2.heap.size w3.heap.size w8 va xs ∧ RwI w3.heap.size w4.heap.size w8 vs xs ∧ RwI w4.heap.size w5.heap.size w8 vb ys ∧ IS w8 vl ys ∧ RwI w6.heap.size w7.heap.size w8 vc zs ∧ IS w8 vt zs) := ⟨bel_tr f1 H8.out.2, f2.below H8.out.2, f4.below H8.out.2, f6.below H8.out.2, f8.below H8.out.2, f10.below H8.out.2, f12.below H8.out.2, H8.out.1.is⟩
    clear H8 F7 A6 f1 f2 f3 f4 f5 f6 f7 f8 f9 f10 f11 f12 f13
    generalize w1'.heap.size = s1 at *
    generalize w2.heap.size = s2 at *
    generalize w3.heap.size = s3 at *
    generalize w4.heap.size = s4 at *
    generalize w5.heap.size = s5 at *
    generalize w6.heap.size = s6 at *
    generalize w7.heap.size = s7 at *
    go_wp2_with fail
    refine (A7.out _ _ _ xs HL1.out.1 F8.out.2.2.1.1.is F8.out.2.2.2.1.1.is).mono ?_
    rintro e w9 ⟨rfl, h9⟩
    obtain ⟨f1, f2, f3, f4, f5, f6, f7, f8⟩ := F8.out
    have F9 : Hid (Below w.heap.size w w9 ∧ Lent s1 s2 w9 vm L ∧ RwI s2 s3 w9 va xs ∧ RwI s3 s4 w9 vs xs ∧ RwI s4 s5 w9 vb ys ∧ IS w9 vl ys ∧ RwI s6 s7 w9 vc zs ∧ IS w9 vt zs) := ⟨bel_tr f1 h9, f2.below h9, f3.below h9, f4.below h9, f5.below h9, f6.below h9, f7.below h9, f8.below h9⟩
    have G9 : Hid (s7 ≤ w9.heap.size) := Nat.le_trans G0.out.2.2.2.2.2.2 h9.size
    clear h9 F8 f1 f2 f3 f4 f5 f6 f7 f8
    go_wp2_with fail
    refine (A7.out _ _ _ ys HL1.out.2.2 F9.out.2.2.2.2.1.1.is F9.out.2.2.2.2.2.1).mono ?_
    rintro e w10 ⟨rfl, h10⟩
    obtain ⟨f1, f2, f3, f4, f5, f6, f7, f8⟩ := F9.out
    have F10 : Hid (Below w.heap.size w w10 ∧ Lent s1 s2 w10 vm L ∧ RwI s2 s3 w10 va xs ∧ RwI s3 s4 w10 vs xs ∧ RwI s4 s5 w10 vb ys ∧ RwI s6 s7 w10 vc zs ∧ IS w10 vt zs) := ⟨bel_tr f1 h10, f2.below h10, f3.below h10, f4.below h10, f5.below h10, f7.below h10, f8.below h10⟩
    have G10 : Hid (s7 ≤ w10.heap.size) := Nat.le_trans G9.out h10.size
    clear h10 F9 f1 f2 f3 f4 f5 f6 f7 f8 G9
    go_wp2_with fail
    refine (A7.out _ _ _ zs HL1.out.2.1 F10.out.2.2.2.2.2.1.1.is F10.out.2.2.2.2.2.2).mono ?_
    rintro e w11 ⟨rfl, h11⟩
    obtain ⟨f1, f2, f3, f4, f5, f6, f7⟩ := F10.out
    have F11 : Hid (Below w.heap.size w w11 ∧ Lent s1 s2 w11 vm L ∧ RwI s2 s3 w11 va xs ∧ RwI s3 s4 w11 vs xs ∧ RwI s4 s5 w11 vb ys ∧ RwI s6 s7 w11 vc zs) := ⟨bel_tr f1 h11, f2.below h11, f3.below h11, f4.below h11, f5.below h11, f6.below h11⟩
    have G11 : Hid (s7 ≤ w11.heap.size) := Nat.le_trans G10.out h11.size
    clear h11 F10 f1 f2 f3 f4 f5 f6 f7 G10
    obtain ⟨oaa, caa, e1, _, _⟩ := F11.out.2.2.1.1.is
    obtain ⟨obb, cbb, e2, _, _⟩ := F11.out.2.2.2.2.1.1.is
    obtain ⟨occ, ccc, e3, _, _⟩ := F11.out.2.2.2.2.2.1.is
    subst e1 e2 e3
    go_wp2_with fail
    refine (A9.out _ s2 s3 _ xs HL1.out.1 (by have := G11.out; have := G0.out; omega) F11.out.2.2.1).mono ?_
    rintro e w12 ⟨rfl, h12⟩
    have F12 : Hid (Below w.heap.size w w12 ∧ Lent s1 s2 w12 vm L ∧ RwI s3 s4 w12 vs xs ∧ RwI s4 s5 w12 (.slice obb ys.length cbb) ys ∧ RwI s6 s7 w12 (.slice occ zs.length ccc) zs ∧ s7 ≤ w12.heap.size) := by
      obtain ⟨f1, f2, f3, f4, f5, f6⟩ := F11.out
      have g := G0.out
      exact ⟨grow_belowI f1 f3 (by omega) f1.size h12, f2.kept f3 (Nat.le_refl _) h12, f4.kept f3 (.inr (Nat.le_refl _)) h12, f5.kept f3 (.inr (by omega)) h12, f6.kept f3 (.inr (by omega)) h12, Nat.le_trans G11.out h12.size⟩
    clear h12 F11 G11
    go_wp2_with fail
    refine (A9.out _ s4 s5 _ ys HL1.out.2.2 (by have := F12.out.2.2.2.2.2; have := G0.out; omega) F12.out.2.2.2.1).mono ?_
    rintro e w13 ⟨rfl, h13⟩
    have F13 : Hid (Below w.heap.size w w13 ∧ Lent s1 s2 w13 vm L ∧ RwI s3 s4 w13 vs xs ∧ RwI s6 s7 w13 (.slice occ zs.length ccc) zs ∧ s7 ≤ w13.heap.size) := by
      obtain ⟨f1, f2, f3, f4, f5, f6⟩ := F12.out
      have g := G0.out
      exact ⟨grow_belowI f1 f4 (by omega) f1.size h13, f2.kept f4 (by omega) h13, f3.kept f4 (.inl (Nat.le_refl _)) h13, f5.kept f4 (.inr (by omega)) h13, Nat.le_trans f6 h13.size⟩
    clear h13 F12
    go_wp2_with fail
    refine (A9.out _ s6 s7 _ zs HL1.out.2.1 (by have := F13.out.2.2.2.2; have := G0.out; omega) F13.out.2.2.2.1).mono ?_
    rintro e w14 ⟨rfl, h14⟩
    have F14 : Hid (Below w.heap.size w w14 ∧ Lent s1 s2 w14 vm L ∧ RwI s3 s4 w14 vs xs) := by
      obtain ⟨f1, f2, f3, f4, f5⟩ := F13.out
      have g := G0.out
      exact ⟨grow_belowI f1 f4 (by omega) f1.size h14, f2.kept f4 (by omega) h14, f3.kept f4 (.inl (by omega)) h14⟩
    clear h14 F13
    go_wp2_with fail
    refine (A1.out _ _ F14.out.2.1.bs).mono ?_
    rintro e w15 ⟨vg, rfl, H15⟩
    have F15 : Hid (Below w.heap.size w w15 ∧ Lent s1 s2 w15 vm L ∧ IS w15 vs xs ∧ IS w15 vg xs) := ⟨bel_tr F14.out.1 H15.out.2, F14.out.2.1.below H15.out.2, (F14.out.2.2.below H15.out.2).1.is, H15.out.1.is⟩
    clear H15 F14
    go_wp2_with fail
    refine (A8.out _ s1 s2 _ F15.out.1 F15.out.2.1).mono ?_
    rintro e w16 ⟨rfl, h16⟩
    have F16 : Hid (Below w.heap.size w w16 ∧ IS w16 vs xs ∧ IS w16 vg xs) := ⟨bel_tr F15.out.1 h16, F15.out.2.2.1.below h16, F15.out.2.2.2.below h16⟩
    clear h16 F15
    go_wp2_with fail
    refine (A7.out _ _ _ xs HL1.out.1 F16.out.2.2 F16.out.2.1).mono ?_
    rintro e w17 ⟨rfl, h17⟩
    have F17 : Hid (Below w.heap.size w w17) := bel_tr F16.out.1 h17
    clear h17 F16
    go_wp2
    go_ret
    exact ⟨rfl, F17.out⟩
  · rw [hlg] at HLg
    clear hlg
    go_enter Try.func3, Try.ntmps3
    go_wp2_with fail
    refine HA.out.mono ?_
    rintro e w1 ⟨rfl, hb1⟩
    have F1 : Hid (Below w.heap.size w w1) := hb1
    clear hb1
    go_wp2_with fail
    refine (HLg.out _).mono ?_
    rintro e w1' ⟨rfl, rfl⟩
    go_wp2
    go_ret
    exact ⟨rfl, F1.out⟩

end Go.Proofs.Ytjamkbhplejolaa
