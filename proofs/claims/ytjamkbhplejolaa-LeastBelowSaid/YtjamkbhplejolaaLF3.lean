/-
  Tight; the document's Tight.
-/
import Derived.Test.YtjamkbhplejolaaLF2
namespace Go.Proofs.Ytjamkbhplejolaa
open Go.RowKit

/-- The numbers of the bounds that are kept just so. -/
def tgA (x : Nat → Int) : Nat → List Bn → List Int
  | _, [] => []
  | i, b :: t => if x b.b = x b.a + b.f then (i : Int) :: tgA x (i + 1) t else tgA x (i + 1) t
theorem tgA_len (x : Nat → Int) : ∀ (i : Nat) (l : List Bn), (tgA x i l).length ≤ l.length
  | _, [] => Nat.le_refl _
  | i, b :: t => by
    have := tgA_len x (i + 1) t
    rw [tgA]
    split <;> simp <;> omega
theorem drop_step {l : List Bn} {k : Nat} {b : Bn} (h : l[k]? = some b) : l.drop k = b :: l.drop (k + 1) := by
  have hk := (List.getElem?_eq_some_iff.1 h).1
  rw [List.drop_eq_getElem_cons hk]
  rw [List.getElem?_eq_getElem hk] at h
  injection h with h
  rw [h]
def tgL (n : Int) (L : List Bq) : List Int := if solE n L = 0 then tgA (rds (nat L) n.toNat rs0).x 0 (nat L) else []
theorem solE_zero {n : Int} {L : List Bq} (h : solE n L = 0) : chk n L = 0 ∧ (rds (nat L) n.toNat rs0).l = none ∧ solL n L = rowN n.toNat (rds (nat L) n.toNat rs0).x := by
  unfold solE at h
  split at h
  · next h0 =>
    unfold slE at h
    split at h
    · next h1 =>
      refine ⟨h0, h1, ?_⟩
      unfold solL slL
      rw [if_pos h0, if_pos h1]
    · omega
  · next h0 => exact absurd h h0
theorem is_row {w : World} {v : Value} {N : Nat} {x : Nat → Int} (h : IS w v (rowN N x)) : ∃ oa cap, v = .slice oa N cap ∧ N ≤ cap ∧ (0 < N → ∃ g o, oa = some ⟨g, o, none⟩ ∧ g < w.heap.size ∧ ∀ i, i < N → w.cell? ⟨g, o + i, none⟩ = some (.int .i64 (x i))) := by
  obtain ⟨oa, cap, e, hc, hg⟩ := h
  rw [rowN_len] at e hc
  refine ⟨oa, cap, e, hc, fun hp => ?_⟩
  obtain ⟨g, o, e1, h1, h2⟩ := hg (by rw [rowN_len]; exact hp)
  refine ⟨g, o, e1, h1, fun i hi => ?_⟩
  have := h2 i (by rw [rowN_len]; exact hi)
  rw [this]
  simp [rowN]
theorem rds_bound {N : Nat} {L : List Bq} (hn : N ≤ 4096) (hL : L.length ≤ 4096) (hk : ∀ q ∈ L, okQ N q = true) : ∀ v, 0 ≤ (rds (nat L) N rs0).x v ∧ (rds (nat L) N rs0).x v ≤ 17592186044416 := by
  intro v
  refine ⟨rds_ge (nat L) N rs0 v, ?_⟩
  have h := rds_bd (nat_far hk) (k := N) (s := rs0) (M := 0) (fun _ => Int.le_refl _) v
  rw [nat_len] at h
  have h1 : (L.length : Int) * 1048576 ≤ 4294967296 := by omega
  have h2 : (N : Int) * ((L.length : Int) * 1048576) ≤ 4096 * 4294967296 := Int.mul_le_mul (by omega) h1 (by omega) (by omega)
  omega

set_option maxRecDepth 10000 in
set_option maxHeartbeats 4000000 in
theorem Tight_any (n : Int) (L : List Bq) (v : Value) (w : World) (hv : BS w v L) :
    Calls Try.prog 16 #[.int .i64 n, v] w fun e w' => AnsI w (tgL n L) (solE n L) e w' := by
  have HC : Hid (Calls Try.prog 28 #[.int .i64 n, v] w fun e w' => e = .returned (.int .i64 (chk n L)) ∧ Below w.heap.size w w') := check_any n L v w hv
  by_cases h0 : chk n L = 0
  · obtain ⟨h1, h2, h3, h4⟩ := chk_zero h0
    obtain ⟨N, rfl⟩ : ∃ N : Nat, n = N := ⟨n.toNat, by omega⟩
    have hn : N ≤ 4096 := by omega
    rw [h0] at HC
    have HS : Hid (∀ W, Below w.heap.size w W → Calls Try.prog 29 #[.int .i64 N, v] W fun e w' => AnsI W (solL N L) (solE N L) e w') := fun W h => by
      unfold solL solE
      rw [if_pos h0, if_pos h0, Int.toNat_natCast]
      exact solve_any N L v W (hv.below h) (by omega) h3 h4
    by_cases hs : solE N L = 0
    · obtain ⟨_, hl, hsl⟩ := solE_zero hs
      rw [Int.toNat_natCast] at hl hsl
      have hbd := rds_bound hn h3 h4
      unfold tgL
      rw [if_pos hs, Int.toNat_natCast, hs]
      rw [hsl, hs] at HS
      have HBd : Hid (∀ v, 0 ≤ (rds (nat L) N rs0).x v ∧ (rds (nat L) N rs0).x v ≤ 17592186044416) := hbd
      generalize (rds (nat L) N rs0).x = x at *
      obtain ⟨R, HR⟩ : ∃ R, Hid (R = tgA x 0 (nat L)) := ⟨tgA x 0 (nat L), by unfold Hid; rfl⟩
      rw [← HR.out]
      have HK : Hid (∀ i (h : i < L.length), ∃ (A B : Nat) (f : Int), A < N ∧ B < N ∧ -1048576 ≤ f ∧ f ≤ 1048576 ∧ L[i] = ⟨(A : Int), (B : Int), f⟩ ∧ (nat L)[i]? = some ⟨A, B, f⟩) := fun i h => bound_at h4 h
      have HNl : Hid ((nat L).length = L.length) := nat_len L
      obtain ⟨i0, hi, hz0, hz1, hz2⟩ := info_parts info_int
      have HI : Hid (Try.prog.info? 3 = some i0 ∧ i0.zero = some (.int .i64 0) ∧ i0.size = 1 ∧ i0.bytes = 8) := ⟨hi, hz0, hz1, hz2⟩
      have HV : Hid (BS w v L) := hv
      obtain ⟨oa, cap, rfl, hc, _⟩ := hv
      clear hi hz0 hz1 hz2 h4 h0 h1 h2 hs hl hsl hbd
      go_enter Try.func16, Try.ntmps16
      go_wp2_with fail
      refine HC.out.mono ?_
      rintro e w1 ⟨rfl, hb1⟩
      have H1 : Hid (Below w.heap.size w w1) := hb1
      clear hb1 HC
      go_wp2_with fail
      refine (HS.out _ H1.out).mono ?_
      rintro e w2 ⟨u, rfl, H2⟩
      have H2b : Hid (Below w.heap.size w w2) := H1.out.trans (H2.out.2.mono H1.out.size)
      obtain ⟨ox, cx, rfl, hcx, hgx⟩ := is_row H2.out.1.is
      have HX : Hid (0 < N → ∃ g o, ox = some ⟨g, o, none⟩ ∧ g < w2.heap.size ∧ ∀ i, i < N → w2.cell? ⟨g, o + i, none⟩ = some (.int .i64 (x i))) := hgx
      obtain ⟨oa', cap', e', _, hg⟩ := HV.out.below H2b.out
      injection e' with e1 _ e3
      subst e1 e3
      have HG : Hid (0 < L.length → ∃ g o, oa = some ⟨g, o, none⟩ ∧ g < w2.heap.size ∧ ∀ i (h : i < L.length), BqAt w2 g (o + i * 3) L[i]) := hg
      clear H1 H2 HS HV hgx hg
      go_wp2_with fail
      go_loopw [9, 29] (fun t i wr => ∃ (k : Nat) (acc : List Int), i = .int .i64 k ∧ k ≤ L.length ∧ acc.length ≤ k ∧ Hid (acc ++ tgA x k ((nat L).drop k) = R ∧ OwI w2.heap.size wr t acc ∧ Below w2.heap.size w2 wr)) (fun _ i _ => L.length - (intOf i).toNat)
      case atStart => exact ⟨0, [], rfl, Nat.zero_le _, Nat.le_refl _, HR.out.symm, OwI.nil _ _, Below.refl _ _⟩
      case round =>
        obtain ⟨k, acc, rfl, hk, hac, HQ⟩ := hrel
        by_cases hlt : k < L.length
        · have ik : (k : Int) < L.length := by omega
          obtain ⟨g, o, rfl, hgl, hat⟩ := HG.out (by omega)
          obtain ⟨A, B, f, hA, hB, hf1, hf2, hq, hnq⟩ := HK.out k hlt
          obtain ⟨gx, oo, rfl, hgxl, hxat⟩ := HX.out (by omega)
          have hx := (hat k hlt).below HQ.out.2.2 hgl
          rw [hq] at hx
          obtain ⟨x0, x1, x2⟩ := hx
          simp only at x0 x1 x2
          have y0 : wr.cell? ⟨gx, oo + A, none⟩ = some (.int .i64 (x A)) := (HQ.out.2.2.cell (p := ⟨gx, oo + A, none⟩) hgxl).trans (hxat A hA)
          have y1 : wr.cell? ⟨gx, oo + B, none⟩ = some (.int .i64 (x B)) := (HQ.out.2.2.cell (p := ⟨gx, oo + B, none⟩) hgxl).trans (hxat B hB)
          have iA : (A : Int) < N := by omega
          have iB : (B : Int) < N := by omega
          have lgx : gx < wr.heap.size := Nat.lt_of_lt_of_le hgxl HQ.out.2.2.size
          have lg : g < wr.heap.size := Nat.lt_of_lt_of_le hgl HQ.out.2.2.size
          obtain ⟨b1, b2⟩ := HBd.out A
          have HT : Hid ((x B = x A + f → (acc ++ [(k : Int)]) ++ tgA x (k + 1) ((nat L).drop (k + 1)) = R) ∧ (¬ x B = x A + f → acc ++ tgA x (k + 1) ((nat L).drop (k + 1)) = R)) := by
            have h := HQ.out.1
            rw [drop_step hnq, tgA] at h
            constructor
            · intro e; simp only at h; rw [if_pos e] at h; rw [← h]; simp
            · intro e; simp only at h; rw [if_neg e] at h; exact h
          have HW : Hid (∀ o m, OwI w2.heap.size ((wr.alloc o).drewN m) u9 acc ∧ Below w2.heap.size w2 ((wr.alloc o).drewN m)) := fun o m => ⟨HQ.out.2.1.below (below_drewN ((Below.refl _ _).alloc (Nat.le_refl _) o)), below_drewN (HQ.out.2.2.alloc HQ.out.2.2.size o)⟩
          clear HQ hat hxat hq hnq
          generalize x A = xa at *
          generalize x B = xb at *
          by_cases ht : xb = xa + f
          · have HN : Hid ((acc ++ [(k : Int)]) ++ tgA x (k + 1) ((nat L).drop (k + 1)) = R) := HT.out.1 ht
            have HA : Hid (∀ o m o2, (((wr.alloc o).drewN m).alloc o2).ownsRow w2.heap.size 3 1 u9 acc.length (flatI acc) ∧ Below w2.heap.size w2 (((wr.alloc o).drewN m).alloc o2)) := fun o m o2 => ⟨(HW.out o m).1.below ((Below.refl _ _).alloc (Nat.le_refl _) o2), (HW.out o m).2.alloc (HW.out o m).2.size o2⟩
            have hc3 : Hid (acc.length + 1 ≤ maxLen) := by unfold Hid maxLen; omega
            have hc4 : Hid ((acc.length + 1) * 8 ≤ 140737488355328) := by unfold Hid; omega
            obtain ⟨hi, hz0, hz1, hz2⟩ := HI.out
            clear HT HW
            go_wp2_with fail
            go_quiet (fail)
            go_wp2_with (at_builtin; refine wpList_append_own _ rfl _ _ 26 rfl w2.heap.size 3 i0 (.int .i64 0) 1 8 Try.underlying26 hi hz0 hz1 hz2 rfl (by decide) u9 acc.length (flatI acc) rfl (HA.out _ _ _).1 _ 1 1 [.int .i64 k] rfl rfl (cell_oneB _ _ _ _ (by simp)) (one1 _) hc3.out hc4.out (HA.out _ _ _).2.size ?_)
            intro v' w4 hown hgrow _
            have HRel : Hid (OwI w2.heap.size w4 v' (acc ++ [(k : Int)]) ∧ Below w2.heap.size w2 w4) := ⟨by unfold OwI; rw [flatI_app, List.length_append]; exact hown, app_below (HA.out _ _ _).2 (HA.out _ _ _).1 (Nat.le_refl _) hgrow⟩
            clear hown hgrow hi hz0 hz1 hz2 HA
            go_wp2
            exact ⟨⟨k + 1, acc ++ [(k : Int)], by go_num, by omega, by simp; omega, HN.out, HRel.out⟩, by simp [intOf]; omega⟩
          · have HN : Hid (acc ++ tgA x (k + 1) ((nat L).drop (k + 1)) = R) := HT.out.2 ht
            clear HT
            go_wp2_with fail
            go_quiet (fail)
            go_wp2
            exact ⟨⟨k + 1, acc, by go_num, by omega, by omega, HN.out, HW.out _ _⟩, by simp [intOf]; omega⟩
        · obtain rfl : k = L.length := by omega
          have HF : Hid (OwI w.heap.size wr u9 R ∧ Below w.heap.size w wr) := by
            have h := HQ.out
            rw [← HNl.out, List.drop_length, tgA, List.append_nil] at h
            exact ⟨by rw [← h.1]; exact h.2.1.weaken H2b.out.size, H2b.out.trans (h.2.2.mono H2b.out.size)⟩
          clear HQ
          go_wp2
          go_ret2
          exact ⟨_, rfl, HF⟩
    · unfold tgL
      rw [if_neg hs]
      have h9 : (solE N L != 0) = true := by simp [hs]
      generalize solE N L = z at *
      generalize solL N L = xs at *
      obtain ⟨oa, cap, rfl, hc, _⟩ := hv
      clear h0 h1 h2 h3 h4 hs
      go_enter Try.func16, Try.ntmps16
      go_wp2_with fail
      refine HC.out.mono ?_
      rintro e w1 ⟨rfl, hb1⟩
      have H1 : Hid (Below w.heap.size w w1) := hb1
      clear hb1 HC
      go_wp2_with fail
      refine (HS.out _ H1.out).mono ?_
      rintro e w2 ⟨u, rfl, H2⟩
      have H2b : Hid (Below w.heap.size w w2) := H1.out.trans (H2.out.2.mono H1.out.size)
      clear H2
      go_wp2
      go_ret2
      exact ⟨_, rfl, OwI.nil _ _, H2b.out⟩
  · have hs : solE n L = chk n L := by unfold solE; rw [if_neg h0]
    unfold tgL
    rw [hs, if_neg h0]
    have h1 : (chk n L != 0) = true := by simp [h0]
    generalize chk n L = z at *
    clear h0 hv hs
    go_enter Try.func16, Try.ntmps16
    go_wp2_with fail
    refine HC.out.mono ?_
    rintro e w1 ⟨rfl, hb1⟩
    have H1 : Hid (Below w.heap.size w w1) := hb1
    clear hb1
    go_wp2
    go_ret2
    exact ⟨_, rfl, OwI.nil _ _, H1.out⟩

end Go.Proofs.Ytjamkbhplejolaa
