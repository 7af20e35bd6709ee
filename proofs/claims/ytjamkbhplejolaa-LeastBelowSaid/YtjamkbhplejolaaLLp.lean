/-
  The walk of LeastLoop.
-/
import Derived.Test.YtjamkbhplejolaaLT
namespace Go.Proofs.Ytjamkbhplejolaa
open Go.RowKit

theorem info_bool : (Try.prog.info? 4).map (fun i => (i.zero, i.size, i.bytes)) = some (some (.bool false), 1, 1) := by kernel_rfl
theorem make_bools (n : Nat) (hn : n < 1000000) (w : World) : ∃ arr : Array Value, (arr.size = n ∧ ∀ i, i < n → arr[i]? = some (.bool false)) ∧ (Instr.makeSlice 37 (.int .i64 (n : Nat)) (.int .i64 (n : Nat))).run Try.prog w = .ok (.slice (some ⟨w.heap.size, 0, none⟩) n n) (w.alloc (.cells arr 4)) := by
  obtain ⟨i0, hi, hz0, hz1, hz2⟩ := info_parts info_bool
  have h := run_make (P := Try.prog) w 37 4 i0 (.bool false) Try.underlying37 hi hz0 .i64 .i64 (n : Int) (n : Int) (by omega) (Int.le_refl _) (by rw [hz2]; omega) (by omega)
  simp only [Int.toNat_natCast, hz1, Nat.mul_one] at h
  exact ⟨_, ⟨size_madeCells _ _, fun i hi => by simp [madeCells, Value.cells, hi, Nat.mod_one]⟩, h⟩
/-- From which number the i-th bound of a loop goes out. -/
def aF (L : List Bn) (R : List Nat) (i : Nat) : Option Nat := (R[i]?).bind fun k => (L[k]?).map (·.a)
def mtB (L : List Bn) (R : List Nat) (j k : Nat) : Bool := (List.range j).any fun i => aF L R i == some k
theorem mt_succ (L : List Bn) (R : List Nat) (j k : Nat) : mtB L R (j + 1) k = (mtB L R j k || aF L R j == some k) := by
  unfold mtB
  rw [List.range_succ, List.any_append]
  simp
theorem mt_no {N : Nat} {L : List Bn} {R : List Nat} (h : Nice N L R) {j k : Nat} {b : Bn} (h1 : R[j]? = some k) (h2 : L[k]? = some b) : mtB L R j b.a = false := by
  unfold mtB
  rw [List.any_eq_false]
  intro i hi he
  have hij := List.mem_range.1 hi
  rw [beq_iff_eq] at he
  unfold aF at he
  obtain ⟨k', e1, e2⟩ := Option.bind_eq_some_iff.1 he
  obtain ⟨c, e3, e4⟩ := Option.map_eq_some_iff.1 e2
  have := h.apart i j k' k c b e1 h1 e3 h2 e4
  omega
theorem aF_at {L : List Bn} {R : List Nat} {j k : Nat} {b : Bn} (h1 : R[j]? = some k) (h2 : L[k]? = some b) : aF L R j = some b.a := by
  unfold aF
  rw [h1]
  simp [h2]

set_option maxRecDepth 10000 in
set_option maxHeartbeats 8000000 in
theorem lloop_walk (n : Int) (L : List Bq) (v : Value) (w : World) (hv : BS w v L) :
    Calls Try.prog 6 #[.int .i64 n, v] w fun e w' => e = .returned (.bool true) ∧ Below w.heap.size w w' := by
  have HA : Hid (Calls Try.prog 9 #[] w fun e w' => e = .returned (.bool true) ∧ Below w.heap.size w w') := awake_any w
  have HV : Hid (BS w v L) := hv
  obtain ⟨oa, cap, rfl, hc, hg⟩ := id hv
  by_cases hn1 : 200 < n
  · clear hv hg
    go_enter Try.func6, Try.ntmps6
    go_wp2_with fail
    refine HA.out.mono ?_
    rintro e w1 ⟨rfl, hb1⟩
    have F1 : Hid (Below w.heap.size w w1) := hb1
    clear hb1
    go_wp2
    go_ret
    exact ⟨rfl, F1.out⟩
  by_cases hn2 : 400 < L.length
  · have i2 : (400 : Int) < L.length := by omega
    clear hv hg
    go_enter Try.func6, Try.ntmps6
    go_wp2_with fail
    refine HA.out.mono ?_
    rintro e w1 ⟨rfl, hb1⟩
    have F1 : Hid (Below w.heap.size w w1) := hb1
    clear hb1
    go_wp2
    go_ret
    exact ⟨rfl, F1.out⟩
  have i2 : ¬ (400 : Int) < L.length := by omega
  have HS : Hid (∀ W, Below w.heap.size w W → Calls Try.prog 12 #[.int .i64 n, .slice oa L.length cap] W fun e w' => AnsI W (solL n L) (solE n L) e w') := fun W h => Solve_any n L _ W (hv.below h)
  have HL : Hid (∀ W, Below w.heap.size w W → Calls Try.prog 14 #[.int .i64 n, .slice oa L.length cap] W fun e w' => AnsI W (LopL n L) (chk n L) e w') := fun W h => Loop_any n L _ W (hv.below h)
  by_cases h0 : chk n L = 0
  · obtain ⟨h1, h2, h3, h4⟩ := chk_zero h0
    obtain ⟨N, rfl⟩ : ∃ N : Nat, n = N := ⟨n.toNat, by omega⟩
    have hab := nat_abt h4
    have eS : solL N L = slL N L ∧ solE N L = slE N L ∧ LopL N L = lopL N L := by
      unfold solL solE LopL
      rw [if_pos h0, if_pos h0, if_pos h0, Int.toNat_natCast]
      exact ⟨rfl, rfl, rfl⟩
    rw [eS.1, eS.2.1] at HS
    rw [eS.2.2, h0] at HL
    cases hl : (rds (nat L) N rs0).l with
    | none =>
      have hE : slE N L = 0 ∧ lopL N L = [] := by
        unfold slE lopL
        rw [if_pos hl, hl]
        exact ⟨rfl, rfl⟩
      rw [hE.1] at HS
      rw [hE.2] at HL
      generalize slL N L = xs at *
      clear hE eS hl hab h4 hv hg h0
      go_enter Try.func6, Try.ntmps6
      go_wp2_with fail
      refine HA.out.mono ?_
      rintro e w1 ⟨rfl, hb1⟩
      have F1 : Hid (Below w.heap.size w w1) := hb1
      clear hb1
      go_wp2_with fail
      refine (HS.out _ F1.out).mono ?_
      rintro e w2 ⟨vx, rfl, H2⟩
      have F2 : Hid (Below w.heap.size w w2) := bel_tr F1.out H2.out.2
      clear H2 HS F1
      go_wp2_with fail
      refine (HL.out _ F2.out).mono ?_
      rintro e w3 ⟨vr, rfl, H3⟩
      have F3 : Hid (Below w.heap.size w w3) := bel_tr F2.out H3.out.2
      obtain ⟨orr, cr, rfl, _, _⟩ := H3.out.1.is
      clear H3 HL F2
      go_wp2
      go_ret
      exact ⟨rfl, F3.out⟩
    | some vl =>
      obtain ⟨hvl, hN⟩ := last_lt hab hl
      have hE : slE N L = 90 ∧ lopL N L = toI (rotN (bakL (nat L) (rds (nat L) N rs0) N vl).reverse) := by
        unfold slE lopL
        rw [if_neg (by rw [hl]; simp), hl]
        exact ⟨rfl, rfl⟩
      have hR : Nice N (nat L) (rotN (bakL (nat L) (rds (nat L) N rs0) N vl).reverse) := by
        unfold bakL
        exact lop_nice hab (lpf_of hab hl hN)
      rw [hE.1] at HS
      rw [hE.2] at HL
      generalize rotN (bakL (nat L) (rds (nat L) N rs0) N vl).reverse = R at *
      generalize slL N L = xs at *
      have hRp := hR.pos
      have hRn := hR.len
      have hLp : 0 < L.length := by
        obtain ⟨b, h, _⟩ := hR.here 0 R[0] (List.getElem?_eq_getElem hRp)
        have := (List.getElem?_eq_some_iff.1 h).1
        rw [nat_len] at this
        omega
      obtain ⟨g, o, rfl, hgl, hat⟩ := hg hLp
      have HC : Hid (∀ i, i < R.length → ∃ (k m A B A' B' z0 : Nat) (f f' : Int), R[i]? = some k ∧ R[(i + 1) % R.length]? = some m ∧ R[0]? = some z0 ∧ z0 ≤ k ∧ k < L.length ∧ m < L.length ∧ B = A' ∧ A < N ∧ -1048576 ≤ f ∧ f ≤ 1048576 ∧ (nat L)[k]? = some ⟨A, B, f⟩ ∧ BqAt w g (o + k * 3) ⟨(A : Int), (B : Int), f⟩ ∧ BqAt w g (o + m * 3) ⟨(A' : Int), (B' : Int), f'⟩) := by
        intro i hi
        have hm : (i + 1) % R.length < R.length := Nat.mod_lt _ hRp
        have hk1 : R[i]? = some R[i] := List.getElem?_eq_getElem hi
        have hm1 : R[(i + 1) % R.length]? = some R[(i + 1) % R.length] := List.getElem?_eq_getElem hm
        have hz1 : R[0]? = some R[0] := List.getElem?_eq_getElem hRp
        have l1 : R[i] < L.length := by
          obtain ⟨b, h, _⟩ := hR.here _ _ hk1
          have := (List.getElem?_eq_some_iff.1 h).1
          rw [nat_len] at this
          exact this
        have l2 : R[(i + 1) % R.length] < L.length := by
          obtain ⟨b, h, _⟩ := hR.here _ _ hm1
          have := (List.getElem?_eq_some_iff.1 h).1
          rw [nat_len] at this
          exact this
        obtain ⟨A, B, f, hA, _, f1, f2, e1, e2⟩ := bound_at h4 l1
        obtain ⟨A', B', f', _, _, _, _, e3, e4⟩ := bound_at h4 l2
        refine ⟨R[i], R[(i + 1) % R.length], A, B, A', B', R[0], f, f', hk1, hm1, hz1, hR.least i _ _ hk1 hz1, l1, l2, hR.next i _ _ _ _ hi hk1 hm1 e2 e4, hA, f1, f2, e2, ?_, ?_⟩
        · rw [← e1]; exact hat _ l1
        · rw [← e3]; exact hat _ l2
      have HMn : Hid (∀ (j k : Nat) (b : Bn), R[j]? = some k → (nat L)[k]? = some b → mtB (nat L) R j b.a = false) := fun j k b h1 h2 => mt_no hR h1 h2
      have HSb : Hid (∀ i, i ≤ R.length → -4294967296 ≤ sumI (nat L) (R.take i) ∧ sumI (nat L) (R.take i) ≤ 4294967296) := fun i hi => by
        have := sumI_bd (nat L) (nat_far h4) (R.take i)
        rw [List.length_take] at this
        omega
      have HSu : Hid (0 < sumI (nat L) R) := hR.sum
      obtain ⟨p, Hq⟩ : ∃ p, Hid (p = R.length) := ⟨R.length, by unfold Hid; rfl⟩
      rw [← Hq.out] at HC HSb hRp hRn
      have ip : ¬ (p : Int) = 0 := by omega
      have bp : ((p : Int) == 0) = false := by simp; omega
      have inp : ¬ (N : Int) < p := by omega
      clear hE eS hl hab h4 hv hg hat hR h0 HV
      have HLi : Hid (∀ W y, IS W y (toI R) → ∃ cx gx oo : Nat, y = .slice (some ⟨gx, oo, none⟩) p cx ∧ p ≤ cx ∧ gx < W.heap.size ∧ ∀ (i k : Nat), R[i]? = some k → W.cell? ⟨gx, oo + i, none⟩ = some (.int .i64 k)) := by
        intro W y hy
        obtain ⟨ox, cx, e0, hcx, hgx⟩ := hy
        rw [toI_len, ← Hq.out] at e0 hcx
        obtain ⟨gx, oo, e1, hgxl, hxat⟩ := hgx (by rw [toI_len, ← Hq.out]; exact hRp)
        subst e1
        refine ⟨cx, gx, oo, e0, hcx, hgxl, fun i k hi => ?_⟩
        have hil := (List.getElem?_eq_some_iff.1 hi).1
        have := hxat i (by rw [toI_len]; exact hil)
        rw [toI_at] at this
        rw [this]
        rw [List.getElem?_eq_getElem hil] at hi
        injection hi with hi
        rw [hi]
      go_enter Try.func6, Try.ntmps6
      go_wp2_with fail
      refine HA.out.mono ?_
      rintro e w1 ⟨rfl, hb1⟩
      have F1 : Hid (Below w.heap.size w w1) := hb1
      clear hb1
      go_wp2_with fail
      refine (HS.out _ F1.out).mono ?_
      rintro e w2 ⟨vx, rfl, H2⟩
      have F2 : Hid (Below w.heap.size w w2) := bel_tr F1.out H2.out.2
      clear H2 HS F1
      go_wp2_with fail
      refine (HL.out _ F2.out).mono ?_
      rintro e w3 ⟨vr, rfl, H3⟩
      have F3 : Hid (Below w.heap.size w w3) := bel_tr F2.out H3.out.2
      obtain ⟨cx, gx, oo, rfl, hcx, hgxl, hxat⟩ := HLi.out _ _ H3.out.1.is
      have HX : Hid (∀ (i k : Nat), R[i]? = some k → w3.cell? ⟨gx, oo + i, none⟩ = some (.int .i64 k)) := hxat
      obtain ⟨arr, ha, hmk⟩ := make_bools N (by omega) w3
      have K : Bk (w3.alloc (.cells arr 4)) w3.heap.size arr 4 := Bk.new _ _ _
      have HK : Hid (arr.size = N ∧ (∀ i, i < N → arr[i]? = some (.bool (mtB (nat L) R 0 i))) ∧ Bk (w3.alloc (.cells arr 4)) w3.heap.size arr 4 ∧ Below w3.heap.size w3 (w3.alloc (.cells arr 4))) := ⟨ha.1, ha.2, K, bel_al _ _⟩
      clear H3 HL F2 hxat ha K HLi
      go_wp2_with fail
      generalize w3.alloc (.cells arr 4) = W4 at *
      obtain ⟨mb, Hmb⟩ : ∃ mb, Hid (mb = w3.heap.size) := ⟨w3.heap.size, by unfold Hid; rfl⟩
      rw [← Hmb.out]
      rw [← Hmb.out] at HK
      clear hmk
      generalize decide ((200 : Int) < (N : Int)) = dA
      generalize decide ((400 : Int) < (L.length : Int)) = dB
      have hN2 : N ≤ 200 := by omega
      have hL2 : L.length ≤ 400 := by omega
      generalize decide (N < p) = dC
      clear hn1 i2 hn2 inp
      go_loopw [10, 12] (fun sv i wr => ∃ (j : Nat) (z : Int), i = .int .i64 j ∧ sv = .int .i64 z ∧ j ≤ p ∧ ∃ vs : Array Value, Hid (z = sumI (nat L) (R.take j) ∧ vs.size = N ∧ (∀ i, i < N → vs[i]? = some (.bool (mtB (nat L) R j i))) ∧ Bk wr mb vs 4 ∧ Below mb w3 wr)) (fun _ i _ => p - (intOf i).toNat)
      case atStart => exact ⟨0, 0, rfl, rfl, Nat.zero_le _, arr, rfl, HK.out⟩
      case round =>
        obtain ⟨j, z, rfl, rfl, hj, vs, HQ⟩ := hrel
        clear HK
        by_cases hlt : j < p
        · have ij : (j : Int) < p := by omega
          obtain ⟨k, m, A, B, A', B', z0, f, f', h1, h1m, h1z, hzk, l1, l2, hBA, hA, f1, f2, h2, c3, c4⟩ := HC.out j hlt
          have hB3 : Below w3.heap.size w3 wr := by have := HQ.out.2.2.2.2; rw [Hmb.out] at this; exact this
          have hBw : Below w.heap.size w wr := bel_tr F3.out hB3
          obtain ⟨r, hr⟩ : ∃ r : Nat, r = (j + 1) % p := ⟨_, rfl⟩
          have d1 : wr.cell? ⟨gx, oo + j, none⟩ = some (.int .i64 k) := (hB3.cell (p := ⟨gx, oo + j, none⟩) hgxl).trans (HX.out j k h1)
          have d2 : wr.cell? ⟨gx, oo + r, none⟩ = some (.int .i64 m) := by rw [hr]; exact (hB3.cell (p := ⟨gx, oo + (j + 1) % p, none⟩) hgxl).trans (HX.out _ m h1m)
          have d3 : wr.cell? ⟨gx, oo, none⟩ = some (.int .i64 z0) := by
            have := (hB3.cell (p := ⟨gx, oo + 0, none⟩) hgxl).trans (HX.out 0 z0 h1z)
            rwa [Nat.add_zero] at this
          have hrp : r < p := by rw [hr]; exact Nat.mod_lt _ (by omega)
          have irp : (r : Int) < p := by omega
          have e1 : ((j : Int) + 1).tmod p = r := by
            have : ((j : Int) + 1) = ((j + 1 : Nat) : Int) := rfl
            rw [this, hr]
            exact (Int.ofNat_tmod (j + 1) p).symm
          have e2 : ((j : Int) + 1) % p = r := by
            have : ((j : Int) + 1) = ((j + 1 : Nat) : Int) := rfl
            rw [this, hr]
            rfl
          obtain ⟨x0, x1, x2⟩ := c3.below hBw hgl
          obtain ⟨y0, y1, y2⟩ := c4.below hBw hgl
          simp only at x0 x1 x2 y0 y1 y2
          subst hBA
          have hAv : A < vs.size := by rw [HQ.out.2.1]; exact hA
          have hm0 : wr.cell? ⟨mb, A, none⟩ = some (.bool false) := by
            rw [HQ.out.2.2.2.1.cell, HQ.out.2.2.1 A hA]
            have := HMn.out j k ⟨A, B, f⟩ h1 h2
            simp only at this
            rw [this]
          have fm := HQ.out.2.2.2.1.frozen A
          have lmb := HQ.out.2.2.2.1.lt
          have lgx : gx < wr.heap.size := Nat.lt_of_lt_of_le hgxl hB3.size
          have lg : g < wr.heap.size := Nat.lt_of_lt_of_le hgl hBw.size
          have nm1 : ¬ mb = wr.heap.size := by omega
          have nm2 : ¬ wr.heap.size = mb := by omega
          have iA : (A : Int) < N := by omega
          have ik : (k : Int) < L.length := by omega
          have im : (m : Int) < L.length := by omega
          have ik2 : ¬ (L.length : Int) ≤ k := by omega
          have im2 : ¬ (L.length : Int) ≤ m := by omega
          have ik0 : ¬ (k : Int) < 0 := by omega
          have im0 : ¬ (m : Int) < 0 := by omega
          have izk : ¬ (k : Int) < z0 := by omega
          have ip0 : (0 : Int) < p := by omega
          have HSm : Hid (z + f = sumI (nat L) (R.take (j + 1))) := by unfold Hid; rw [sumI_take (nat L) h1 h2, HQ.out.1]
          have hzb : -4294967296 ≤ z ∧ z ≤ 4294967296 := by rw [HQ.out.1]; exact HSb.out j hj
          have HW : Hid (∀ X : World, Bk X mb vs 4 → Below mb w3 X → ∀ (vb : Array Value) t n, ∃ vs' : Array Value, vs'.size = N ∧ (∀ i, i < N → vs'[i]? = some (.bool (mtB (nat L) R (j + 1) i))) ∧ Bk (((X.alloc (.cells vb t)).drewN n).setCell ⟨mb, A, none⟩ (.bool true)) mb vs' 4 ∧ Below mb w3 (((X.alloc (.cells vb t)).drewN n).setCell ⟨mb, A, none⟩ (.bool true))) := by
            intro X hX1 hX2 vb t n
            refine ⟨vs.setIfInBounds A (.bool true), by simp [HQ.out.2.1], fun i hi => ?_, Bk.put (Bk.drewN (Bk.alloc hX1 _) n) A _, ?_⟩
            · rw [mt_succ, aF_at h1 h2]
              by_cases c : i = A
              · subst c; simp [hAv]
              · rw [Array.getElem?_setIfInBounds_ne (by omega), HQ.out.2.2.1 i hi]
                have : ((some A : Option Nat) == some i) = false := by simp; omega
                simp only
                rw [this, Bool.or_false]
            · have := hX1.lt
              exact (below_drewN (hX2.alloc (by omega) _)).setCell (p := ⟨mb, A, none⟩) (Nat.le_refl _) _
          have K5 : ∀ m, Hid (Bk (wr.drewN m) mb vs 4 ∧ Below mb w3 (wr.drewN m)) := fun m => ⟨Bk.drewN HQ.out.2.2.2.1 m, below_drewN HQ.out.2.2.2.2⟩
          clear HQ c3 c4 h1 h2 h1m h1z hr hB3 hBw
          go_wp2_with fail
          go_quiet (fail)
          have K6 := K5 nq
          replace d1 : (wr.drewN nq).cell? ⟨gx, oo + j, none⟩ = some (.int .i64 k) := d1
          replace d2 : (wr.drewN nq).cell? ⟨gx, oo + r, none⟩ = some (.int .i64 m) := d2
          replace x0 : (wr.drewN nq).cell? ⟨g, o + k * 3, none⟩ = some (.int .i64 A) := x0
          replace x1 : (wr.drewN nq).cell? ⟨g, o + k * 3 + 1, none⟩ = some (.int .i64 B) := x1
          replace x2 : (wr.drewN nq).cell? ⟨g, o + k * 3 + 2, none⟩ = some (.int .i64 f) := x2
          replace y0 : (wr.drewN nq).cell? ⟨g, o + m * 3, none⟩ = some (.int .i64 B) := y0
          replace hm0 : (wr.drewN nq).cell? ⟨mb, A, none⟩ = some (.bool false) := hm0
          replace fm : (wr.drewN nq).frozen? ⟨mb, A, none⟩ = false := fm
          replace lmb : mb < (wr.drewN nq).heap.size := lmb
          replace lgx : gx < (wr.drewN nq).heap.size := lgx
          replace lg : g < (wr.drewN nq).heap.size := lg
          replace nm1 : ¬ mb = (wr.drewN nq).heap.size := nm1
          replace nm2 : ¬ (wr.drewN nq).heap.size = mb := nm2
          clear K5 d3 y1 y2
          generalize wr.drewN nq = W5 at *
          go_wp2_with fail
          go_quiet (fail)
          go_wp2
          exact ⟨⟨j + 1, z + f, by go_num, rfl, by omega, _, ⟨HSm.out, (HW.out W5 K6.out.1 K6.out.2 _ _ _).choose_spec⟩⟩, by simp [intOf]; omega⟩
        · obtain rfl : j = p := by omega
          have hz : 0 < z := by
            have := HQ.out.1
            rw [List.take_of_length_le (by rw [← Hq.out]; exact Nat.le_refl _)] at this
            rw [this]; exact HSu.out
          have HB : Hid (Below w.heap.size w wr) := by
            have := HQ.out.2.2.2.2
            rw [Hmb.out] at this
            exact bel_tr F3.out this
          clear HQ
          go_wp2
          go_ret
          exact ⟨by simp, HB.out⟩
  · have eS : solE n L = chk n L ∧ LopL n L = [] := by
      unfold solE LopL
      rw [if_neg h0, if_neg h0]
      exact ⟨rfl, rfl⟩
    rw [eS.1] at HS
    rw [eS.2] at HL
    have h9 : (chk n L != 0) = true := by simp [h0]
    generalize chk n L = z at *
    generalize solL n L = xs at *
    clear eS hv hg h0
    go_enter Try.func6, Try.ntmps6
    go_wp2_with fail
    refine HA.out.mono ?_
    rintro e w1 ⟨rfl, hb1⟩
    have F1 : Hid (Below w.heap.size w w1) := hb1
    clear hb1
    go_wp2_with fail
    refine (HS.out _ F1.out).mono ?_
    rintro e w2 ⟨vx, rfl, H2⟩
    have F2 : Hid (Below w.heap.size w w2) := bel_tr F1.out H2.out.2
    clear H2 HS F1
    go_wp2_with fail
    refine (HL.out _ F2.out).mono ?_
    rintro e w3 ⟨vr, rfl, H3⟩
    have F3 : Hid (Below w.heap.size w w3) := bel_tr F2.out H3.out.2
    obtain ⟨orr, cr, rfl, _, _⟩ := H3.out.1.is
    clear H3 HL F2
    go_wp2
    go_ret
    exact ⟨by simp, F3.out⟩

end Go.Proofs.Ytjamkbhplejolaa
