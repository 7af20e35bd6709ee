/-
  The loop that the rounds ran round: package least's.
-/
import Derived.Test.YtjamkbhplejolaaLF2
import Derived.Test.YtjamkbhplejolaaLP4
import Derived.Deep.Onto
namespace Go.Proofs.Ytjamkbhplejolaa
open Go.RowKit

/-- The outcome and the bounds as the closure sees them. -/
def LpW (w : World) (n gb lb rb : Nat) (sa v : Value) (z : Int) (m : Nat → Option Nat) (x : World) : Prop := Below w.heap.size w x ∧ Nb x gb (rowN n (madI m)) ∧ Bk x lb #[v] 22 ∧ Bk x rb #[sa, .slice (some ⟨gb, 0, none⟩) n n, .int .i64 z] 47
theorem LpW.below {w : World} {n gb lb rb : Nat} {sa v : Value} {z : Int} {m : Nat → Option Nat} {x x' : World} (h : LpW w n gb lb rb sa v z m x) (hb : Below x.heap.size x x') : LpW w n gb lb rb sa v z m x' := ⟨h.1.trans (hb.mono h.1.size), h.2.1.below hb, h.2.2.1.below hb, h.2.2.2.below hb⟩
theorem madI_some {m : Nat → Option Nat} {k i : Nat} (h : m k = some i) : madI m k = i := by unfold madI; rw [h]

set_option maxHeartbeats 2000000 in
theorem loop1_any (n gb lb rb : Nat) (L : List Bq) (v sa : Value) (z : Int) (m : Nat → Option Nat) (w x : World) (hv : BS w v L) (hx : LpW w n gb lb rb sa v z m x) (k i : Nat) (hk : k < n) (hm : m k = some i) (hi : i < L.length) :
    Calls Try.prog 38 #[.int .i64 k, .pointer (some ⟨lb, 0, none⟩), .pointer (some ⟨rb, 0, none⟩)] x fun e x' => e = .returned (.int .i64 L[i].a) ∧ Below x.heap.size x x' := by
  obtain ⟨oa, cap, rfl, hc, hg⟩ := hv
  obtain ⟨g, o, rfl, hgl, hat⟩ := hg (by omega)
  have x0 := ((hat i hi).below hx.1 hgl).1
  have y0 : x.cell? ⟨gb, k, none⟩ = some (.int .i64 i) := by
    rw [hx.2.1.at k (by rw [rowN_len]; exact hk)]
    simp [rowN, madI_some hm]
  have l0 : x.cell? ⟨lb, 0, none⟩ = some (.slice (some ⟨g, o, none⟩) L.length cap) := by rw [hx.2.2.1.cell]; rfl
  obtain ⟨_, r1, _⟩ := hx.2.2.2.at3
  have ik : (k : Int) < n := by omega
  have ii : (i : Int) < L.length := by omega
  have HB : Hid (∀ m, Below x.heap.size x (x.drewN m)) := fun m => below_drewN (Below.refl _ _)
  generalize L[i] = q at *
  clear hat hx hg hm
  go_enter Try.func38, Try.ntmps38
  go_wp2_with fail
  go_quiet (fail)
  go_wp2
  go_ret
  exact ⟨rfl, HB.out _⟩

def toI (l : List Nat) : List Int := l.map fun k : Nat => (k : Int)
theorem toI_len (l : List Nat) : (toI l).length = l.length := by simp [toI]
theorem toI_at (l : List Nat) (i : Nat) (h : i < (toI l).length) : (toI l)[i] = (l[i]'(by rw [toI_len] at h; exact h) : Nat) := by simp [toI]
theorem toI_rev (l : List Nat) : (toI l).reverse = toI l.reverse := by simp [toI]
theorem toI_rot (l : List Nat) : (toI l).drop (mnN l) ++ (toI l).take (mnN l) = toI (rotN l) := by
  unfold toI rotN
  rw [List.map_append, List.map_drop, List.map_take]
/-- One step back. -/
theorem lop_step {N : Nat} {L : List Bq} {v : Value} {s : Rs} {w : World} {ga gb : Nat} {z : Int} (hv : BS w v L) (hk : ∀ q ∈ L, okQ N q = true) {lb rb : Nat} {x : World} (hx : LpW w N gb lb rb (.slice (some ⟨ga, 0, none⟩) N N) v z s.m x) {j q t y : Nat} (hq : stp (nat L) s q t = some y) (hj : j < q) (ht : t < N) :
    ∃ k i a : Nat, stp (nat L) s j t = some k ∧ k < N ∧ s.m k = some i ∧ stp (nat L) s (j + 1) t = some a ∧ a < N ∧ bck (nat L) s (j + 1) t = bck (nat L) s j t ++ [i] ∧ x.cell? ⟨gb, k, none⟩ = some (.int .i64 i) ∧ Calls Try.prog 38 #[.int .i64 k, .pointer (some ⟨lb, 0, none⟩), .pointer (some ⟨rb, 0, none⟩)] x fun e x' => e = .returned (.int .i64 a) ∧ Below x.heap.size x x' := by
  have hab := nat_abt hk
  obtain ⟨k, i, b, h1, h2, h3, h4⟩ := stp_pre hq hj
  have hkn := stp_lt hab j t k ht h1
  have hi : i < L.length := by have := (List.getElem?_eq_some_iff.1 h3).1; rw [nat_len] at this; exact this
  have e : L[i].a = (b.a : Int) := by
    obtain ⟨A, B, f, _, _, _, _, e1, e2⟩ := bound_at hk hi
    rw [e2] at h3
    injection h3 with h3
    rw [e1, ← h3]
  have hc := loop1_any N gb lb rb L v _ z s.m w x hv hx k i hkn h2 hi
  rw [e] at hc
  refine ⟨k, i, b.a, h1, hkn, h2, h4, stp_lt hab (j + 1) t b.a ht h4, bck_snoc j t k i b h1 h2 h3, ?_, hc⟩
  rw [hx.2.1.at k (by rw [rowN_len]; exact hkn)]
  simp [rowN, madI_some h2]

set_option maxRecDepth 10000 in
set_option maxHeartbeats 4000000 in
theorem loop_any (N : Nat) (L : List Bq) (ga gb : Nat) (v : Value) (s : Rs) (vl : Nat) (w : World) (hv : BS w v L) (hw : Nb w gb (rowN N (madI s.m))) (hN : N ≤ 4096) (hk : ∀ q ∈ L, okQ N q = true) (hvn : vl < N) (u p : Nat) (hf : Lpf (nat L) s N vl u p) :
    Calls Try.prog 33 #[.agg #[.slice (some ⟨ga, 0, none⟩) N N, .slice (some ⟨gb, 0, none⟩) N N, .int .i64 vl], v] w fun e w' => ∃ y, e = .returned y ∧ Hid (OwI w.heap.size w' y (toI (rotN (bck (nat L) s p u).reverse)) ∧ Below w.heap.size w w') := by
  have HF : Hid (Lpf (nat L) s N vl u p) := hf
  have HK : Hid (∀ q ∈ L, okQ N q = true) := hk
  have HV : Hid (BS w v L) := hv
  have H0 : Hid (LpW w N gb (w.heap.size + 1) w.heap.size (.slice (some ⟨ga, 0, none⟩) N N) v vl s.m ((w.alloc (.cells #[.slice (some ⟨ga, 0, none⟩) N N, .slice (some ⟨gb, 0, none⟩) N N, .int .i64 vl] 47)).alloc (.cells #[v] 22))) := by
    refine ⟨((Below.refl _ _).alloc (Nat.le_refl _) _).alloc (by simp) _, (hw.alloc _).alloc _, Bk.newB (by simp), (Bk.new _ _ _).alloc _⟩
  clear hf hk hv hw
  obtain ⟨oa, cap, rfl, hc, _⟩ := id HV.out
  go_enter Try.func33, Try.ntmps33
  go_wp2_with fail
  generalize (w.alloc (.cells #[.slice (some ⟨ga, 0, none⟩) N N, .slice (some ⟨gb, 0, none⟩) N N, .int .i64 vl] 47)).alloc (.cells #[.slice oa L.length cap] 22) = W1 at *
  obtain ⟨lb, Hlb⟩ : ∃ lb, Hid (lb = w.heap.size + 1) := ⟨w.heap.size + 1, by unfold Hid; rfl⟩
  obtain ⟨rb, Hrb⟩ : ∃ rb, Hid (rb = w.heap.size) := ⟨w.heap.size, by unfold Hid; rfl⟩
  rw [← Hlb.out, ← Hrb.out]
  rw [← Hlb.out, ← Hrb.out] at H0
  go_loopw [6, 15] (fun st i wr => ∃ (j k : Nat), i = .int .i64 j ∧ st = .int .i64 k ∧ j ≤ N ∧ stp (nat L) s j vl = some k ∧ Hid (LpW w N gb lb rb (.slice (some ⟨ga, 0, none⟩) N N) (.slice oa L.length cap) vl s.m wr)) (fun _ i _ => N - (intOf i).toNat)
  case atStart => exact ⟨0, vl, rfl, rfl, Nat.zero_le _, rfl, H0⟩
  case round =>
    obtain ⟨j, k, rfl, rfl, hj, hst, HR⟩ := hrel
    clear H0
    have Hst : Hid (stp (nat L) s j vl = some k) := hst
    clear hst
    by_cases hlt : j < N
    · have ij : (j : Int) < N := by omega
      obtain ⟨k', i, a, h1, h2, _, h4, _, _, _, h7⟩ := lop_step HV.out HK.out HR.out HF.out.way hlt hvn
      obtain rfl : k' = k := by rw [Hst.out] at h1; injection h1 with h1; exact h1.symm
      have HC : Hid (Calls Try.prog 38 #[.int .i64 k', .pointer (some ⟨lb, 0, none⟩), .pointer (some ⟨rb, 0, none⟩)] wr fun e x' => e = .returned (.int .i64 a) ∧ Below wr.heap.size wr x') := h7
      have H4 : Hid (stp (nat L) s (j + 1) vl = some a) := h4
      clear h1 h4 h7
      go_wp2_with fail
      refine HC.out.mono ?_
      rintro e w2 ⟨rfl, hb⟩
      have H2 : Hid (LpW w N gb lb rb (.slice (some ⟨ga, 0, none⟩) N N) (.slice oa L.length cap) vl s.m w2) := HR.out.below hb
      clear hb HR HC
      go_wp2
      exact ⟨⟨j + 1, a, by go_num, rfl, by omega, H4.out, H2⟩, by simp [intOf]; omega⟩
    · obtain rfl : j = N := by omega
      obtain rfl : k = u := by have h := Hst.out; rw [HF.out.way] at h; injection h with h; exact h.symm
      have hp0 := HF.out.p0
      have hpn := HF.out.pn
      have hun := HF.out.un
      obtain ⟨k', i, a, h1, h2, _, h4, h5, h6, h7, h8⟩ := lop_step HV.out HK.out HR.out HF.out.back hp0 hun
      obtain rfl : k = k' := by simp only [stp, Option.some.injEq] at h1; exact h1
      have iu : (k : Int) < j := by omega
      have Hb1 : Hid (bck (nat L) s 1 k = [i] ∧ stp (nat L) s 1 k = some a) := ⟨h6, h4⟩
      have HA : Hid (∀ o, Below wr.heap.size wr (wr.alloc o)) := fun o => (Below.refl _ _).alloc (Nat.le_refl _) o
      have HC : Hid (∀ x, Below wr.heap.size wr x → Calls Try.prog 38 #[.int .i64 k, .pointer (some ⟨lb, 0, none⟩), .pointer (some ⟨rb, 0, none⟩)] x fun e x' => e = .returned (.int .i64 a) ∧ Below x.heap.size x x') := fun x hx => by
        obtain ⟨k', i', a', g1, _, _, g4, _, _, _, g8⟩ := lop_step HV.out HK.out (HR.out.below hx) HF.out.back hp0 hun
        simp only [stp, Option.some.injEq] at g1
        subst g1
        rw [h4] at g4
        injection g4 with g4
        subst g4
        exact g8
      have HW1 : Hid (OwI wr.heap.size (wr.alloc (.cells #[.int .i64 i] 3)) (.slice (some ⟨wr.heap.size, 0, none⟩) 1 1) (toI (bck (nat L) s 1 k))) := by
        unfold Hid
        rw [Hb1.out.1]
        have h := Nb.own (w := wr.alloc (.cells #[.int .i64 i] 3)) (g := wr.heap.size) (lo := wr.heap.size) (xs := [(i : Int)]) (Bk.new _ _ _) (Nat.le_refl _) (by unfold maxLen; simp)
        exact h
      obtain ⟨r0, r1, r2⟩ := HR.out.2.2.2.at3
      clear h1 h4 h5 h6 h8 Hst
      go_wp2_with fail
      refine (HC.out _ (HA.out _)).mono ?_
      rintro e w2 ⟨rfl, hb2⟩
      have H2 : Hid (OwI wr.heap.size w2 (.slice (some ⟨wr.heap.size, 0, none⟩) 1 1) (toI (bck (nat L) s 1 k)) ∧ Below wr.heap.size wr w2) := ⟨HW1.out.below hb2, (HA.out _).trans (hb2.mono (HA.out _).size)⟩
      clear hb2 HC HW1 r0 r1 r2 h7
      obtain ⟨W2, HW2⟩ : ∃ W2 : World, Hid (W2 = wr) := ⟨wr, by unfold Hid; rfl⟩
      rw [← HW2.out] at H2
      have HL : Hid (LpW w j gb lb rb (.slice (some ⟨ga, 0, none⟩) j j) (.slice oa L.length cap) vl s.m W2) := by rw [HW2.out]; exact HR.out
      obtain ⟨i0, hi, hz0, hz1, hz2⟩ := info_parts info_int
      have HI : Hid (Try.prog.info? 3 = some i0 ∧ i0.zero = some (.int .i64 0) ∧ i0.size = 1 ∧ i0.bytes = 8) := ⟨hi, hz0, hz1, hz2⟩
      clear hi hz0 hz1 hz2 HR HA
      rw [← HW2.out]
      go_wp2_with fail
      go_loopw [7, 8] (fun wv nv wr => ∃ (q t : Nat), nv = .int .i64 t ∧ 0 < q ∧ q ≤ p ∧ Hid (stp (nat L) s q k = some t ∧ OwI W2.heap.size wr wv (toI (bck (nat L) s q k)) ∧ Below W2.heap.size W2 wr)) (fun wv _ _ => p - (match wv with | .slice _ n _ => n | _ => 0))
      case atStart => exact ⟨1, a, rfl, by omega, by omega, Hb1.out.2, H2.out⟩
      case round =>
        obtain ⟨q, t, rfl, hq0, hqp, HQ⟩ := hrel
        clear H2
        have hql : (toI (bck (nat L) s q k)).length = q := by rw [toI_len, bck_len q k t HQ.out.1]
        have hown : wr.ownsRow W2.heap.size 3 1 u7 q (flatI (toI (bck (nat L) s q k))) := by have h := HQ.out.2.1; unfold OwI at h; rw [hql] at h; exact h
        obtain ⟨ow, cw, rfl, hcw, hgw⟩ := row_val hown
        by_cases hlt : q < p
        · have hne : ¬ t = k := fun e => HF.out.first q hq0 hlt (by rw [HQ.out.1, e])
          have ine : ¬ (t : Int) = k := by omega
          have hLr := HL.out.below HQ.out.2.2
          obtain ⟨k', i', a', g1, g2, _, g4, _, g6, g7, _⟩ := lop_step HV.out HK.out hLr HF.out.back hlt hun
          obtain rfl : t = k' := by rw [HQ.out.1] at g1; injection g1 with g1
          have it : (t : Int) < j := by omega
          obtain ⟨r0, r1, r2⟩ := hLr.2.2.2.at3
          have HC : Hid (∀ x, Below W2.heap.size W2 x → Calls Try.prog 38 #[.int .i64 t, .pointer (some ⟨lb, 0, none⟩), .pointer (some ⟨rb, 0, none⟩)] x fun e x' => e = .returned (.int .i64 a') ∧ Below x.heap.size x x') := fun x hx => by
            obtain ⟨k2, i2, a2, f1, _, _, f4, _, _, _, f8⟩ := lop_step HV.out HK.out (HL.out.below hx) HF.out.back hlt hun
            rw [g1] at f1
            injection f1 with f1
            subst f1
            rw [g4] at f4
            injection f4 with f4
            subst f4
            exact f8
          have HG4 : Hid (stp (nat L) s (q + 1) k = some a' ∧ bck (nat L) s (q + 1) k = bck (nat L) s q k ++ [i']) := ⟨g4, g6⟩
          have HO : Hid (∀ o, (wr.alloc o).ownsRow W2.heap.size 3 1 (.slice ow q cw) q (flatI (toI (bck (nat L) s q k))) ∧ Below W2.heap.size W2 (wr.alloc o)) := fun o => ⟨row_below hown ((Below.refl _ _).alloc (Nat.le_refl _) o), HQ.out.2.2.alloc HQ.out.2.2.size o⟩
          have Hql : Hid ((toI (bck (nat L) s q k)).length = q) := hql
          have hc3 : Hid (q + 1 ≤ maxLen) := by unfold Hid maxLen; omega
          have hc4 : Hid ((q + 1) * 8 ≤ 140737488355328) := by unfold Hid; omega
          obtain ⟨hi, hz0, hz1, hz2⟩ := HI.out
          clear g1 g4 g6 hLr hown hql hgw HQ r0 r2
          go_wp2_with (at_builtin; refine wpList_append_own _ rfl _ _ 26 rfl W2.heap.size 3 i0 (.int .i64 0) 1 8 Try.underlying26 hi hz0 hz1 hz2 rfl (by decide) (.slice ow q cw) q (flatI (toI (bck (nat L) s q k))) rfl (HO.out _).1 _ 1 1 [.int .i64 i'] rfl rfl (cell_oneB _ _ _ _ rfl) (one1 _) hc3.out hc4.out (HO.out _).2.size ?_)
          intro v' w4 hown4 hgrow _
          have H4 : Hid (OwI W2.heap.size w4 v' (toI (bck (nat L) s (q + 1) k)) ∧ Below W2.heap.size W2 w4) := by
            refine ⟨?_, app_below (HO.out _).2 (HO.out _).1 (Nat.le_refl _) hgrow⟩
            unfold OwI
            rw [HG4.out.2]
            have e : toI (bck (nat L) s q k ++ [i']) = toI (bck (nat L) s q k) ++ [(i' : Int)] := by simp [toI]
            rw [e, List.length_append, flatI_app, Hql.out]
            exact hown4
          have Hv' : Hid (∃ o c, v' = .slice o (q + 1) c) := by obtain ⟨o, c, e, _⟩ := row_val hown4; exact ⟨o, c, e⟩
          clear hown4 hgrow hi hz0 hz1 hz2 HO r1 g7
          go_wp2_with fail
          refine (HC.out _ H4.out.2).mono ?_
          rintro e w5 ⟨rfl, hb5⟩
          have H5 : Hid (OwI W2.heap.size w5 v' (toI (bck (nat L) s (q + 1) k)) ∧ Below W2.heap.size W2 w5) := ⟨H4.out.1.below hb5, H4.out.2.trans (hb5.mono H4.out.2.size)⟩
          clear hb5 H4 HC
          obtain ⟨o5, c5, rfl⟩ := Hv'.out
          go_wp2
          exact ⟨⟨q + 1, a', rfl, by omega, by omega, HG4.out.1, H5.out⟩, by simp only; omega⟩
        · obtain rfl : q = p := by omega
          obtain rfl : t = k := by have h := HQ.out.1; rw [HF.out.back] at h; injection h with h; exact h.symm
          obtain ⟨gw, rfl, hgw1, hgw2⟩ := hgw (by omega)
          have HRv : Hid (Calls Try.prog 39 #[.slice (some ⟨gw, 0, none⟩) q cw] wr fun e w' => e = .returned (.tuple #[]) ∧ OwI W2.heap.size w' (.slice (some ⟨gw, 0, none⟩) q cw) (toI (bck (nat L) s q t).reverse) ∧ wr.grownBy w' (some gw)) := by
            have h := reverse_any (toI (bck (nat L) s q t)) gw cw W2.heap.size wr (by rw [hql]; exact HQ.out.2.1) (by rw [hql]; omega) (by rw [hql]; omega)
            rw [hql, toI_rev] at h
            exact h
          have hrl : (toI (bck (nat L) s q t).reverse).length = q := by rw [toI_len, List.length_reverse, ← toI_len, hql]
          have HBe : Hid (∀ W, OwI W2.heap.size W (.slice (some ⟨gw, 0, none⟩) q cw) (toI (bck (nat L) s q t).reverse) → Calls Try.prog 40 #[.slice (some ⟨gw, 0, none⟩) q cw] W fun e w' => ∃ u, e = .returned u ∧ OwI W.heap.size w' u (toI (rotN (bck (nat L) s q t).reverse)) ∧ Below W.heap.size W w') := fun W hW => by
            have hne : (bck (nat L) s q t).reverse ≠ [] := by
              intro e
              rw [e] at hrl
              simp [toI] at hrl
              omega
            have hmn := mnN_lt hne
            have h := begun_any (toI (bck (nat L) s q t).reverse) gw cw W (by rw [hrl]; exact hW.is) (by rw [hrl]; omega) (mnN (bck (nat L) s q t).reverse) (by rw [toI_len]; exact hmn) (fun j hj => by
              rw [toI_at, toI_at]
              have := mnN_le hmn ((bck (nat L) s q t).reverse[j]'(by rw [toI_len] at hj; exact hj)) (List.getElem_mem _)
              omega) (fun j hj hjf => by
              rw [toI_at, toI_at]
              have := mnN_first hmn hjf
              omega)
            rw [hrl, toI_rot] at h
            exact h
          have HWb : Hid (Below w.heap.size w W2) := HL.out.1
          have HQb : Hid (Below W2.heap.size W2 wr) := HQ.out.2.2
          clear HQ hown hql hrl hgw
          go_wp2_with fail
          refine HRv.out.mono ?_
          rintro e w6 ⟨rfl, h6, h6g⟩
          have H6 : Hid (OwI W2.heap.size w6 (.slice (some ⟨gw, 0, none⟩) q cw) (toI (bck (nat L) s q t).reverse) ∧ Below W2.heap.size W2 w6) := ⟨h6, HQb.out.grown h6g HQb.out.size (fun g e => by injection e with e; subst e; exact hgw1)⟩
          clear h6 h6g HRv
          go_wp2_with fail
          refine (HBe.out _ H6.out.1).mono ?_
          rintro e w7 ⟨y, rfl, h7, h7b⟩
          have H7 : Hid (OwI w.heap.size w7 y (toI (rotN (bck (nat L) s q t).reverse)) ∧ Below w.heap.size w w7) := by
            have b6 : Below w.heap.size w w6 := HWb.out.trans (H6.out.2.mono HWb.out.size)
            exact ⟨h7.weaken b6.size, b6.trans (h7b.mono b6.size)⟩
          clear h7 h7b HBe
          go_wp2
          go_ret
          exact ⟨_, rfl, H7⟩

end Go.Proofs.Ytjamkbhplejolaa
