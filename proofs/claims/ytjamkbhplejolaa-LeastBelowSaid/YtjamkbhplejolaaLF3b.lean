/-
  The document's Tight.
-/
import Derived.Test.YtjamkbhplejolaaLF3
namespace Go.Proofs.Ytjamkbhplejolaa
open Go.RowKit

set_option maxRecDepth 10000 in
set_option maxHeartbeats 4000000 in
theorem rTight_any (n : Int) (L : List Bq) (v : Value) (w : World) (hv : BS w v L) :
    Calls Try.prog 17 #[.int .i64 n, v] w fun e w' => AnsI w (tgL n L) (solE n L) e w' := by
  by_cases h0 : chk n L = 0
  · obtain ⟨h1, h2, h3, h4⟩ := chk_zero h0
    obtain ⟨N, rfl⟩ : ∃ N : Nat, n = N := ⟨n.toNat, by omega⟩
    have hn : N ≤ 4096 := by omega
    have HS : Hid (Calls Try.prog 13 #[.int .i64 N, v] w fun e w' => AnsI w (solL N L) (solE N L) e w') := rSolve_any N L v w hv
    by_cases hs : solE N L = 0
    · obtain ⟨_, hl, hsl⟩ := solE_zero hs
      rw [Int.toNat_natCast] at hl hsl
      have hbd := rds_bound hn h3 h4
      unfold tgL
      rw [if_pos hs, Int.toNat_natCast, hs]
      rw [hsl, hs] at HS
      have HBd : Hid (∀ v, 0 ≤ (rds (nat L) N rs0).x v ∧ (rds (nat L) N rs0).x v ≤ 17592186044416) := hbd
      generalize (rds (nat L) N rs0).x = x at *
      obtain ⟨R, HR⟩ : ∃ R, Hid (R = tgA x 0 (nat L)) := ⟨tgA x 0 (nat L), by unfold Hid; rfl⟩
      rw [← HR.out]
      have HK : Hid (∀ i (h : i < L.length), ∃ (A B : Nat) (f : Int), A < N ∧ B < N ∧ -1048576 ≤ f ∧ f ≤ 1048576 ∧ L[i] = ⟨(A : Int), (B : Int), f⟩ ∧ (nat L)[i]? = some ⟨A, B, f⟩) := fun i h => bound_at h4 h
      have HNl : Hid ((nat L).length = L.length) := nat_len L
      obtain ⟨i0, hi, hz0, hz1, hz2⟩ := info_parts info_int
      have HI : Hid (Try.prog.info? 3 = some i0 ∧ i0.zero = some (.int .i64 0) ∧ i0.size = 1 ∧ i0.bytes = 8) := ⟨hi, hz0, hz1, hz2⟩
      have HV : Hid (BS w v L) := hv
      obtain ⟨oa, cap, rfl, hc, _⟩ := hv
      clear hi hz0 hz1 hz2 h4 h0 h1 h2 hs hl hsl hbd
      go_enter Try.func17, Try.ntmps17
      go_wp2_with fail
      refine HS.out.mono ?_
      rintro e w2 ⟨u, rfl, H2⟩
      have H2b : Hid (Below w.heap.size w w2) := H2.out.2
      obtain ⟨ox, cx, rfl, hcx, hgx⟩ := is_row H2.out.1.is
      have HX : Hid (0 < N → ∃ g o, ox = some ⟨g, o, none⟩ ∧ g < w2.heap.size ∧ ∀ i, i < N → w2.cell? ⟨g, o + i, none⟩ = some (.int .i64 (x i))) := hgx
      obtain ⟨oa', cap', e', _, hg⟩ := HV.out.below H2b.out
      injection e' with e1 _ e3
      subst e1 e3
      have HG : Hid (0 < L.length → ∃ g o, oa = some ⟨g, o, none⟩ ∧ g < w2.heap.size ∧ ∀ i (h : i < L.length), BqAt w2 g (o + i * 3) L[i]) := hg
      clear H2 HS HV hgx hg
      go_wp2_with fail
      go_loopw [8, 9] (fun t i wr => ∃ (k : Nat) (acc : List Int), i = .int .i64 k ∧ k ≤ L.length ∧ acc.length ≤ k ∧ Hid (acc ++ tgA x k ((nat L).drop k) = R ∧ OwI w2.heap.size wr t acc ∧ Below w2.heap.size w2 wr)) (fun _ i _ => L.length - (intOf i).toNat)
      case atStart => exact ⟨0, [], rfl, Nat.zero_le _, Nat.le_refl _, HR.out.symm, OwI.nil _ _, Below.refl _ _⟩
      case round =>
        obtain ⟨k, acc, rfl, hk, hac, HQ⟩ := hrel
        by_cases hlt : k < L.length
        · have ik : (k : Int) < L.length := by omega
          obtain ⟨g, o, rfl, hgl, hat⟩ := HG.out (by omega)
          obtain ⟨A, B, f, hA, hB, hf1, hf2, hq, hnq⟩ := HK.out k hlt
          obtain ⟨gx, oo, rfl, hgxl, hxat⟩ := HX.out (by omega)
          have hx := (hat k hlt).below HQ.out.2.2 hgl
          rw [hq] at hx
          obtain ⟨x0, x1, x2⟩ := hx
          simp only at x0 x1 x2
          have y0 : wr.cell? ⟨gx, oo + A, none⟩ = some (.int .i64 (x A)) := (HQ.out.2.2.cell (p := ⟨gx, oo + A, none⟩) hgxl).trans (hxat A hA)
          have y1 : wr.cell? ⟨gx, oo + B, none⟩ = some (.int .i64 (x B)) := (HQ.out.2.2.cell (p := ⟨gx, oo + B, none⟩) hgxl).trans (hxat B hB)
          have iA : (A : Int) < N := by omega
          have iB : (B : Int) < N := by omega
          have lgx : gx < wr.heap.size := Nat.lt_of_lt_of_le hgxl HQ.out.2.2.size
          have lg : g < wr.heap.size := Nat.lt_of_lt_of_le hgl HQ.out.2.2.size
          obtain ⟨b1, b2⟩ := HBd.out A
          have HT : Hid ((x B = x A + f → (acc ++ [(k : Int)]) ++ tgA x (k + 1) ((nat L).drop (k + 1)) = R) ∧ (¬ x B = x A + f → acc ++ tgA x (k + 1) ((nat L).drop (k + 1)) = R)) := by
            have h := HQ.out.1
            rw [drop_step hnq, tgA] at h
            constructor
            · intro e; simp only at h; rw [if_pos e] at h; rw [← h]; simp
            · intro e; simp only at h; rw [if_neg e] at h; exact h
          have HW : Hid (∀ m, OwI w2.heap.size (wr.drewN m) u8 acc ∧ Below w2.heap.size w2 (wr.drewN m)) := fun m => ⟨HQ.out.2.1.below (below_drewN (Below.refl _ _)), below_drewN HQ.out.2.2⟩
          clear HQ hat hxat hq hnq
          generalize x A = xa at *
          generalize x B = xb at *
          by_cases ht : xb = xa + f
          · have HN : Hid ((acc ++ [(k : Int)]) ++ tgA x (k + 1) ((nat L).drop (k + 1)) = R) := HT.out.1 ht
            have HA : Hid (∀ m o2, ((wr.drewN m).alloc o2).ownsRow w2.heap.size 3 1 u8 acc.length (flatI acc) ∧ Below w2.heap.size w2 ((wr.drewN m).alloc o2)) := fun m o2 => ⟨(HW.out m).1.below ((Below.refl _ _).alloc (Nat.le_refl _) o2), (HW.out m).2.alloc (HW.out m).2.size o2⟩
            have hc3 : Hid (acc.length + 1 ≤ maxLen) := by unfold Hid maxLen; omega
            have hc4 : Hid ((acc.length + 1) * 8 ≤ 140737488355328) := by unfold Hid; omega
            obtain ⟨hi, hz0, hz1, hz2⟩ := HI.out
            clear HT HW
            go_wp2_with fail
            go_quiet (fail)
            go_wp2_with (at_builtin; refine wpList_append_own _ rfl _ _ 26 rfl w2.heap.size 3 i0 (.int .i64 0) 1 8 Try.underlying26 hi hz0 hz1 hz2 rfl (by decide) u8 acc.length (flatI acc) rfl (HA.out _ _).1 _ 1 1 [.int .i64 k] rfl rfl (cell_oneB _ _ _ _ (by simp)) (one1 _) hc3.out hc4.out (HA.out _ _).2.size ?_)
            intro v' w4 hown hgrow _
            have HRel : Hid (OwI w2.heap.size w4 v' (acc ++ [(k : Int)]) ∧ Below w2.heap.size w2 w4) := ⟨by unfold OwI; rw [flatI_app, List.length_append]; exact hown, app_below (HA.out _ _).2 (HA.out _ _).1 (Nat.le_refl _) hgrow⟩
            clear hown hgrow hi hz0 hz1 hz2 HA
            go_wp2
            exact ⟨⟨k + 1, acc ++ [(k : Int)], by go_num, by omega, by simp; omega, HN.out, HRel.out⟩, by simp [intOf]; omega⟩
          · have HN : Hid (acc ++ tgA x (k + 1) ((nat L).drop (k + 1)) = R) := HT.out.2 ht
            clear HT
            go_wp2_with fail
            go_quiet (fail)
            go_wp2
            exact ⟨⟨k + 1, acc, by go_num, by omega, by omega, HN.out, HW.out _⟩, by simp [intOf]; omega⟩
        · obtain rfl : k = L.length := by omega
          have HF : Hid (OwI w.heap.size wr u8 R ∧ Below w.heap.size w wr) := by
            have h := HQ.out
            rw [← HNl.out, List.drop_length, tgA, List.append_nil] at h
            exact ⟨by rw [← h.1]; exact h.2.1.weaken H2b.out.size, H2b.out.trans (h.2.2.mono H2b.out.size)⟩
          clear HQ
          go_wp2
          go_ret2
          exact ⟨_, rfl, HF⟩
    · unfold tgL
      rw [if_neg hs]
      have h9 : (solE N L != 0) = true := by simp [hs]
      generalize solE N L = z at *
      generalize solL N L = xs at *
      obtain ⟨oa, cap, rfl, hc, _⟩ := hv
      clear h0 h1 h2 h3 h4 hs
      go_enter Try.func17, Try.ntmps17
      go_wp2_with fail
      refine HS.out.mono ?_
      rintro e w2 ⟨u, rfl, H2⟩
      have H2b : Hid (Below w.heap.size w w2) := H2.out.2
      clear H2
      go_wp2
      go_ret2
      exact ⟨_, rfl, OwI.nil _ _, H2b.out⟩
  · have HS : Hid (Calls Try.prog 13 #[.int .i64 n, v] w fun e w' => AnsI w (solL n L) (solE n L) e w') := rSolve_any n L v w hv
    have hs : ¬ solE n L = 0 := by unfold solE; rw [if_neg h0]; exact h0
    unfold tgL
    rw [if_neg hs]
    have h9 : (solE n L != 0) = true := by simp [hs]
    generalize solE n L = z at *
    generalize solL n L = xs at *
    clear h0 hv hs
    go_enter Try.func17, Try.ntmps17
    go_wp2_with fail
    refine HS.out.mono ?_
    rintro e w2 ⟨u, rfl, H2⟩
    have H2b : Hid (Below w.heap.size w w2) := H2.out.2
    clear H2
    go_wp2
    go_ret2
    exact ⟨_, rfl, OwI.nil _ _, H2b.out⟩

end Go.Proofs.Ytjamkbhplejolaa
