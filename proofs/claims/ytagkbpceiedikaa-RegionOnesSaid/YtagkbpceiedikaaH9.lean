/-
  The walk of the statement RegionTwos.
-/
import Derived.Test.YtagkbpceiedikaaH8
namespace Go.Proofs.Ytagkbpceiedikaa
open Go.RowKit Go.Shelf

theorem ansL_short (e : Int) (F : List Rc) : (ansL e F).length ≤ 3000 := by
  unfold ansL
  split
  · next h => omega
  · simp
theorem wrk_no {n : Nat} (h : wrkB n = false) : n ≤ 3000 := by
  unfold wrkB at h
  simp at h
  omega

set_option maxRecDepth 20000 in
set_option maxHeartbeats 40000000 in
theorem twos_walk (a b : List Rc) (va vb : Value) (w : World) (ha : LsR w va a) (hb : LsR w vb b) (ia : I64s a) (ib : I64s b) (na : NoNil va) (nb : NoNil vb) :
    Calls Try.prog 4 #[va, vb] w fun e w' => e = .returned (.bool true) ∧ Below w.heap.size w w' := by
  obtain ⟨oa, ca, hva, _, _⟩ := id ha
  obtain ⟨ob, cb, hvb, _, _⟩ := id hb
  have HWa : Hid (∀ W, Calls Try.prog 19 #[va] W fun e w' => e = .returned (.bool (wrkB a.length)) ∧ Below W.heap.size W w') := fun W => by rw [hva]; exact work_any _ _ _ W
  have HWb : Hid (∀ W, Calls Try.prog 19 #[vb] W fun e w' => e = .returned (.bool (wrkB b.length)) ∧ Below W.heap.size W w') := fun W => by rw [hvb]; exact work_any _ _ _ W
  clear hva hvb
  cases pa : wrkB a.length
  case true =>
    rw [pa] at HWa
    clear ha hb ia ib na nb pa
    generalize wrkB b.length = qb at *
    go_enter Try.func4, Try.ntmps4
    go_wp2_with fail
    refine (alive_any _).mono ?_
    rintro e w1 ⟨rfl, hb1⟩
    have H1 : Hid (Below w.heap.size w w1) := hb1
    clear hb1
    go_wp2_with fail
    refine (HWa.out _).mono ?_
    rintro e w2 ⟨rfl, hb2⟩
    have H2 : Hid (Below w.heap.size w w2) := bel_tr H1.out hb2
    clear hb2
    go_wp2_with fail
    refine (HWb.out _).mono ?_
    rintro e w3 ⟨rfl, hb3⟩
    have H3 : Hid (Below w.heap.size w w3) := bel_tr H2.out hb3
    clear hb3
    go_wp2
    go_ret
    exact ⟨rfl, H3.out⟩
  rw [pa] at HWa
  cases pb : wrkB b.length
  case true =>
    rw [pb] at HWb
    clear ha hb ia ib na nb pa pb
    go_enter Try.func4, Try.ntmps4
    go_wp2_with fail
    refine (alive_any _).mono ?_
    rintro e w1 ⟨rfl, hb1⟩
    have H1 : Hid (Below w.heap.size w w1) := hb1
    clear hb1
    go_wp2_with fail
    refine (HWa.out _).mono ?_
    rintro e w2 ⟨rfl, hb2⟩
    have H2 : Hid (Below w.heap.size w w2) := bel_tr H1.out hb2
    clear hb2
    go_wp2_with fail
    refine (HWb.out _).mono ?_
    rintro e w3 ⟨rfl, hb3⟩
    have H3 : Hid (Below w.heap.size w w3) := bel_tr H2.out hb3
    clear hb3
    go_wp2
    go_ret
    exact ⟨rfl, H3.out⟩
  rw [pb] at HWb
  have la := wrk_no pa
  have lb := wrk_no pb
  clear pa pb
  have HLa : Hid (∀ W, Below w.heap.size w W → Calls Try.prog 20 #[va] W fun e w' => ∃ u, e = .returned u ∧ Lent W.heap.size w'.heap.size w' u a ∧ Below W.heap.size W w') := fun W h => lent_any a va W (ha.below h) na la
  have HLb : Hid (∀ W, Below w.heap.size w W → Calls Try.prog 20 #[vb] W fun e w' => ∃ u, e = .returned u ∧ Lent W.heap.size w'.heap.size w' u b ∧ Below W.heap.size W w') := fun W h => lent_any b vb W (hb.below h) nb lb
  have HJ : Hid (∀ W x y lo hi lo' hi', Lent lo hi W x a → Lent lo' hi' W y b → Calls Try.prog 12 #[x, y] W fun e w' => Ans W (ansL (twoE a b) (formF false (a ++ b) [])) (ansE (twoE a b) (formF false (a ++ b) [])) e w') := fun W x y lo hi lo' hi' h1 h2 => joinL_any a b x y W h1.lsr.1 h2.lsr.1 ia ib h1.lsr.2 h2.lsr.2
  have HM : Hid (∀ W x y lo hi lo' hi', Lent lo hi W x a → Lent lo' hi' W y b → Calls Try.prog 21 #[x, y] W fun e w' => Ans W (ansL (twoE a b) (formF true a b)) (ansE (twoE a b) (formF true a b)) e w') := fun W x y lo hi lo' hi' h1 h2 => meetL_any a b x y W h1.lsr.1 h2.lsr.1 ia ib
  have HL : Hid (∀ W x y lo hi lo' hi', Lent lo hi W x a → Lent lo' hi' W y b → Calls Try.prog 22 #[x, y] W fun e w' => Ans W (ansL (twoE a b) (formF false a b)) (ansE (twoE a b) (formF false a b)) e w') := fun W x y lo hi lo' hi' h1 h2 => lessL_any a b x y W h1.lsr.1 h2.lsr.1 ia ib
  have HS : Hid (∀ W x y lo hi lo' hi', Lent lo hi W x a → Lent lo' hi' W y b → Calls Try.prog 16 #[x, y] W fun e w' => e = .returned (.tuple #[.bool (samR a b), .int .i64 (twoE a b)]) ∧ Below W.heap.size W w') := fun W x y lo hi lo' hi' h1 h2 => sameS_any a b x y W h1.lsr.1 h2.lsr.1 ia ib
  have DJ : Hid (∀ W, Below w.heap.size w W → Calls Try.prog 23 #[va, vb] W fun e w' => Ans W (ansL (twoE a b) (formF false (a ++ b) [])) (ansE (twoE a b) (formF false (a ++ b) [])) e w') := fun W h => djoin_any a b va vb W (ha.below h) (hb.below h)
  have DM : Hid (∀ W, Below w.heap.size w W → Calls Try.prog 24 #[va, vb] W fun e w' => Ans W (ansL (twoE a b) (formF true a b)) (ansE (twoE a b) (formF true a b)) e w') := fun W h => dmeet_any a b va vb W (ha.below h) (hb.below h)
  have DL : Hid (∀ W, Below w.heap.size w W → Calls Try.prog 25 #[va, vb] W fun e w' => Ans W (ansL (twoE a b) (formF false a b)) (ansE (twoE a b) (formF false a b)) e w') := fun W h => dless_any a b va vb W (ha.below h) (hb.below h)
  have DS : Hid (∀ W, Below w.heap.size w W → Calls Try.prog 26 #[va, vb] W fun e w' => e = .returned (.tuple #[.bool (samR a b), .int .i64 (twoE a b)]) ∧ Below W.heap.size W w') := fun W h => dsame_any a b va vb W (ha.below h) (hb.below h)
  have HE : Hid (∀ W v u lo hi lo' hi' F, Rw lo hi W v F → Rw lo' hi' W u F → F.length ≤ 3000 → Calls Try.prog 18 #[v, u] W fun e w' => e = .returned (.bool true) ∧ Below W.heap.size W w') := fun W v u lo hi lo' hi' F h1 h2 h3 => by
    have q := sameW_any F F v u W h1.lsr h2.lsr (by omega)
    rwa [(sameB_iff F F).2 rfl] at q
  have HO : Hid (∀ W v lo hi F, Rw lo hi W v F → lo ≤ W.heap.size → F.length ≤ 3000 → Calls Try.prog 27 #[v] W fun e w' => e = .returned (.tuple #[]) ∧ W.grownBy w' v.ownBlock) := fun W v lo hi F h1 h2 h3 => over_any lo F v W h1.1 h2 h3
  have HKa : Hid (∀ W x lo hi, Lent lo hi W x a → Below w.heap.size w W → Calls Try.prog 28 #[x, va] W fun e w' => e = .returned (.bool true) ∧ Below W.heap.size W w') := fun W x lo hi h1 h2 => keptL_any lo hi a x va W h1 (ha.below h2) la
  have HKb : Hid (∀ W x lo hi, Lent lo hi W x b → Below w.heap.size w W → Calls Try.prog 28 #[x, vb] W fun e w' => e = .returned (.bool true) ∧ Below W.heap.size W w') := fun W x lo hi h1 h2 => keptL_any lo hi b x vb W h1 (hb.below h2) lb
  have HN : Hid ((ansL (twoE a b) (formF false (a ++ b) [])).length ≤ 3000 ∧ (ansL (twoE a b) (formF true a b)).length ≤ 3000 ∧ (ansL (twoE a b) (formF false a b)).length ≤ 3000) := ⟨ansL_short _ _, ansL_short _ _, ansL_short _ _⟩
  generalize ansL (twoE a b) (formF false (a ++ b) []) = L1 at *
  generalize ansL (twoE a b) (formF true a b) = L2 at *
  generalize ansL (twoE a b) (formF false a b) = L3 at *
  generalize ansE (twoE a b) (formF false (a ++ b) []) = E1 at *
  generalize ansE (twoE a b) (formF true a b) = E2 at *
  generalize ansE (twoE a b) (formF false a b) = E3 at *
  generalize samR a b = sb at *
  generalize twoE a b = E4 at *
  have HL_w : Hid (Below w.heap.size w w) := Below.refl _ _
  clear ha hb ia ib na nb la lb
  go_enter Try.func4, Try.ntmps4
  go_wp2_with fail
  refine (alive_any _).mono ?_
  rintro e w1 ⟨rfl, hb⟩
  have S1 : Hid (w.heap.size ≤ w1.heap.size) := hb.size
  have HL_w1 : Hid (Below w.heap.size w w1) := bel_tr HL_w.out hb
  clear hb HL_w
  go_wp2_with fail
  refine (HWa.out _).mono ?_
  rintro e w2 ⟨rfl, hb⟩
  have S2 : Hid (w1.heap.size ≤ w2.heap.size) := hb.size
  have HL_w2 : Hid (Below w.heap.size w w2) := bel_tr HL_w1.out hb
  clear hb HL_w1
  go_wp2_with fail
  refine (HWb.out _).mono ?_
  rintro e w3 ⟨rfl, hb⟩
  have S3 : Hid (w2.heap.size ≤ w3.heap.size) := hb.size
  have HL_w3 : Hid (Below w.heap.size w w3) := bel_tr HL_w2.out hb
  clear hb HL_w2
  go_wp2_with fail
  refine (HLa.out _ HL_w3.out).mono ?_
  rintro e w4 ⟨vx, rfl, hx, hb⟩
  have S4 : Hid (w3.heap.size ≤ w4.heap.size) := hb.size
  have HL_w4 : Hid (Below w.heap.size w w4) := bel_tr HL_w3.out hb
  have HX_w4 : Hid (Lent w3.heap.size w4.heap.size w4 vx a) := hx
  clear hb HL_w3
  clear hx
  go_wp2_with fail
  refine (HLb.out _ HL_w4.out).mono ?_
  rintro e w5 ⟨vy, rfl, hy, hb⟩
  have S5 : Hid (w4.heap.size ≤ w5.heap.size) := hb.size
  have HL_w5 : Hid (Below w.heap.size w w5) := bel_tr HL_w4.out hb
  have HX_w5 : Hid (Lent w3.heap.size w4.heap.size w5 vx a) := HX_w4.out.below hb
  have HY_w5 : Hid (Lent w4.heap.size w5.heap.size w5 vy b) := hy
  clear hb HL_w4 HX_w4
  clear hy
  go_wp2_with fail
  refine (HJ.out _ _ _ _ _ _ _ HX_w5.out HY_w5.out).mono ?_
  rintro e w6 ⟨vj, rfl, ho, hb⟩
  have S6 : Hid (w5.heap.size ≤ w6.heap.size) := hb.size
  have HL_w6 : Hid (Below w.heap.size w w6) := bel_tr HL_w5.out hb
  have HX_w6 : Hid (Lent w3.heap.size w4.heap.size w6 vx a) := HX_w5.out.below hb
  have HY_w6 : Hid (Lent w4.heap.size w5.heap.size w6 vy b) := HY_w5.out.below hb
  have HJ_w6 : Hid (Rw w5.heap.size w6.heap.size w6 vj L1) := rw_of ho
  clear hb HL_w5 HX_w5 HY_w5
  clear ho
  go_wp2_with fail
  refine (HM.out _ _ _ _ _ _ _ HX_w6.out HY_w6.out).mono ?_
  rintro e w7 ⟨vm, rfl, ho, hb⟩
  have S7 : Hid (w6.heap.size ≤ w7.heap.size) := hb.size
  have HL_w7 : Hid (Below w.heap.size w w7) := bel_tr HL_w6.out hb
  have HX_w7 : Hid (Lent w3.heap.size w4.heap.size w7 vx a) := HX_w6.out.below hb
  have HY_w7 : Hid (Lent w4.heap.size w5.heap.size w7 vy b) := HY_w6.out.below hb
  have HJ_w7 : Hid (Rw w5.heap.size w6.heap.size w7 vj L1) := HJ_w6.out.below hb
  have HM_w7 : Hid (Rw w6.heap.size w7.heap.size w7 vm L2) := rw_of ho
  clear hb HL_w6 HX_w6 HY_w6 HJ_w6
  clear ho
  go_wp2_with fail
  refine (HL.out _ _ _ _ _ _ _ HX_w7.out HY_w7.out).mono ?_
  rintro e w8 ⟨vl, rfl, ho, hb⟩
  have S8 : Hid (w7.heap.size ≤ w8.heap.size) := hb.size
  have HL_w8 : Hid (Below w.heap.size w w8) := bel_tr HL_w7.out hb
  have HX_w8 : Hid (Lent w3.heap.size w4.heap.size w8 vx a) := HX_w7.out.below hb
  have HY_w8 : Hid (Lent w4.heap.size w5.heap.size w8 vy b) := HY_w7.out.below hb
  have HJ_w8 : Hid (Rw w5.heap.size w6.heap.size w8 vj L1) := HJ_w7.out.below hb
  have HM_w8 : Hid (Rw w6.heap.size w7.heap.size w8 vm L2) := HM_w7.out.below hb
  have HK3_w8 : Hid (Rw w7.heap.size w8.heap.size w8 vl L3) := rw_of ho
  clear hb HL_w7 HX_w7 HY_w7 HJ_w7 HM_w7
  clear ho
  go_wp2_with fail
  refine (HS.out _ _ _ _ _ _ _ HX_w8.out HY_w8.out).mono ?_
  rintro e w9 ⟨rfl, hb⟩
  have S9 : Hid (w8.heap.size ≤ w9.heap.size) := hb.size
  have HL_w9 : Hid (Below w.heap.size w w9) := bel_tr HL_w8.out hb
  have HX_w9 : Hid (Lent w3.heap.size w4.heap.size w9 vx a) := HX_w8.out.below hb
  have HY_w9 : Hid (Lent w4.heap.size w5.heap.size w9 vy b) := HY_w8.out.below hb
  have HJ_w9 : Hid (Rw w5.heap.size w6.heap.size w9 vj L1) := HJ_w8.out.below hb
  have HM_w9 : Hid (Rw w6.heap.size w7.heap.size w9 vm L2) := HM_w8.out.below hb
  have HK3_w9 : Hid (Rw w7.heap.size w8.heap.size w9 vl L3) := HK3_w8.out.below hb
  clear hb HL_w8 HX_w8 HY_w8 HJ_w8 HM_w8 HK3_w8
  go_wp2_with fail
  refine (HJ.out _ _ _ _ _ _ _ HX_w9.out HY_w9.out).mono ?_
  rintro e w10 ⟨vk, rfl, ho, hb⟩
  have S10 : Hid (w9.heap.size ≤ w10.heap.size) := hb.size
  have HL_w10 : Hid (Below w.heap.size w w10) := bel_tr HL_w9.out hb
  have HX_w10 : Hid (Lent w3.heap.size w4.heap.size w10 vx a) := HX_w9.out.below hb
  have HY_w10 : Hid (Lent w4.heap.size w5.heap.size w10 vy b) := HY_w9.out.below hb
  have HJ_w10 : Hid (Rw w5.heap.size w6.heap.size w10 vj L1) := HJ_w9.out.below hb
  have HM_w10 : Hid (Rw w6.heap.size w7.heap.size w10 vm L2) := HM_w9.out.below hb
  have HK3_w10 : Hid (Rw w7.heap.size w8.heap.size w10 vl L3) := HK3_w9.out.below hb
  have HK_w10 : Hid (Rw w9.heap.size w10.heap.size w10 vk L1) := rw_of ho
  clear hb HL_w9 HX_w9 HY_w9 HJ_w9 HM_w9 HK3_w9
  clear ho
  go_wp2_with fail
  refine (DJ.out _ HL_w10.out).mono ?_
  rintro e w11 ⟨vj2, rfl, ho, hb⟩
  have S11 : Hid (w10.heap.size ≤ w11.heap.size) := hb.size
  have HL_w11 : Hid (Below w.heap.size w w11) := bel_tr HL_w10.out hb
  have HX_w11 : Hid (Lent w3.heap.size w4.heap.size w11 vx a) := HX_w10.out.below hb
  have HY_w11 : Hid (Lent w4.heap.size w5.heap.size w11 vy b) := HY_w10.out.below hb
  have HJ_w11 : Hid (Rw w5.heap.size w6.heap.size w11 vj L1) := HJ_w10.out.below hb
  have HM_w11 : Hid (Rw w6.heap.size w7.heap.size w11 vm L2) := HM_w10.out.below hb
  have HK3_w11 : Hid (Rw w7.heap.size w8.heap.size w11 vl L3) := HK3_w10.out.below hb
  have HK_w11 : Hid (Rw w9.heap.size w10.heap.size w11 vk L1) := HK_w10.out.below hb
  have HJ2_w11 : Hid (Rw w10.heap.size w11.heap.size w11 vj2 L1) := rw_of ho
  clear hb HL_w10 HX_w10 HY_w10 HJ_w10 HM_w10 HK3_w10 HK_w10
  clear ho
  go_wp2_with fail
  refine (DM.out _ HL_w11.out).mono ?_
  rintro e w12 ⟨vm2, rfl, ho, hb⟩
  have S12 : Hid (w11.heap.size ≤ w12.heap.size) := hb.size
  have HL_w12 : Hid (Below w.heap.size w w12) := bel_tr HL_w11.out hb
  have HX_w12 : Hid (Lent w3.heap.size w4.heap.size w12 vx a) := HX_w11.out.below hb
  have HY_w12 : Hid (Lent w4.heap.size w5.heap.size w12 vy b) := HY_w11.out.below hb
  have HJ_w12 : Hid (Rw w5.heap.size w6.heap.size w12 vj L1) := HJ_w11.out.below hb
  have HM_w12 : Hid (Rw w6.heap.size w7.heap.size w12 vm L2) := HM_w11.out.below hb
  have HK3_w12 : Hid (Rw w7.heap.size w8.heap.size w12 vl L3) := HK3_w11.out.below hb
  have HK_w12 : Hid (Rw w9.heap.size w10.heap.size w12 vk L1) := HK_w11.out.below hb
  have HJ2_w12 : Hid (Rw w10.heap.size w11.heap.size w12 vj2 L1) := HJ2_w11.out.below hb
  have HM2_w12 : Hid (Rw w11.heap.size w12.heap.size w12 vm2 L2) := rw_of ho
  clear hb HL_w11 HX_w11 HY_w11 HJ_w11 HM_w11 HK3_w11 HK_w11 HJ2_w11
  clear ho
  go_wp2_with fail
  refine (DL.out _ HL_w12.out).mono ?_
  rintro e w13 ⟨vl2, rfl, ho, hb⟩
  have S13 : Hid (w12.heap.size ≤ w13.heap.size) := hb.size
  have HL_w13 : Hid (Below w.heap.size w w13) := bel_tr HL_w12.out hb
  have HX_w13 : Hid (Lent w3.heap.size w4.heap.size w13 vx a) := HX_w12.out.below hb
  have HY_w13 : Hid (Lent w4.heap.size w5.heap.size w13 vy b) := HY_w12.out.below hb
  have HJ_w13 : Hid (Rw w5.heap.size w6.heap.size w13 vj L1) := HJ_w12.out.below hb
  have HM_w13 : Hid (Rw w6.heap.size w7.heap.size w13 vm L2) := HM_w12.out.below hb
  have HK3_w13 : Hid (Rw w7.heap.size w8.heap.size w13 vl L3) := HK3_w12.out.below hb
  have HK_w13 : Hid (Rw w9.heap.size w10.heap.size w13 vk L1) := HK_w12.out.below hb
  have HJ2_w13 : Hid (Rw w10.heap.size w11.heap.size w13 vj2 L1) := HJ2_w12.out.below hb
  have HM2_w13 : Hid (Rw w11.heap.size w12.heap.size w13 vm2 L2) := HM2_w12.out.below hb
  have HK2_w13 : Hid (Rw w12.heap.size w13.heap.size w13 vl2 L3) := rw_of ho
  clear hb HL_w12 HX_w12 HY_w12 HJ_w12 HM_w12 HK3_w12 HK_w12 HJ2_w12 HM2_w12
  clear ho
  go_wp2_with fail
  refine (DS.out _ HL_w13.out).mono ?_
  rintro e w14 ⟨rfl, hb⟩
  have S14 : Hid (w13.heap.size ≤ w14.heap.size) := hb.size
  have HL_w14 : Hid (Below w.heap.size w w14) := bel_tr HL_w13.out hb
  have HX_w14 : Hid (Lent w3.heap.size w4.heap.size w14 vx a) := HX_w13.out.below hb
  have HY_w14 : Hid (Lent w4.heap.size w5.heap.size w14 vy b) := HY_w13.out.below hb
  have HJ_w14 : Hid (Rw w5.heap.size w6.heap.size w14 vj L1) := HJ_w13.out.below hb
  have HM_w14 : Hid (Rw w6.heap.size w7.heap.size w14 vm L2) := HM_w13.out.below hb
  have HK3_w14 : Hid (Rw w7.heap.size w8.heap.size w14 vl L3) := HK3_w13.out.below hb
  have HK_w14 : Hid (Rw w9.heap.size w10.heap.size w14 vk L1) := HK_w13.out.below hb
  have HJ2_w14 : Hid (Rw w10.heap.size w11.heap.size w14 vj2 L1) := HJ2_w13.out.below hb
  have HM2_w14 : Hid (Rw w11.heap.size w12.heap.size w14 vm2 L2) := HM2_w13.out.below hb
  have HK2_w14 : Hid (Rw w12.heap.size w13.heap.size w14 vl2 L3) := HK2_w13.out.below hb
  clear hb HL_w13 HX_w13 HY_w13 HJ_w13 HM_w13 HK3_w13 HK_w13 HJ2_w13 HM2_w13 HK2_w13
  go_wp2_with fail
  refine (HE.out _ _ _ _ _ _ _ _ HJ_w14.out HJ2_w14.out HN.out.1).mono ?_
  rintro e w15 ⟨rfl, hb⟩
  have S15 : Hid (w14.heap.size ≤ w15.heap.size) := hb.size
  have HL_w15 : Hid (Below w.heap.size w w15) := bel_tr HL_w14.out hb
  have HX_w15 : Hid (Lent w3.heap.size w4.heap.size w15 vx a) := HX_w14.out.below hb
  have HY_w15 : Hid (Lent w4.heap.size w5.heap.size w15 vy b) := HY_w14.out.below hb
  have HJ_w15 : Hid (Rw w5.heap.size w6.heap.size w15 vj L1) := HJ_w14.out.below hb
  have HM_w15 : Hid (Rw w6.heap.size w7.heap.size w15 vm L2) := HM_w14.out.below hb
  have HK3_w15 : Hid (Rw w7.heap.size w8.heap.size w15 vl L3) := HK3_w14.out.below hb
  have HK_w15 : Hid (Rw w9.heap.size w10.heap.size w15 vk L1) := HK_w14.out.below hb
  have HJ2_w15 : Hid (Rw w10.heap.size w11.heap.size w15 vj2 L1) := HJ2_w14.out.below hb
  have HM2_w15 : Hid (Rw w11.heap.size w12.heap.size w15 vm2 L2) := HM2_w14.out.below hb
  have HK2_w15 : Hid (Rw w12.heap.size w13.heap.size w15 vl2 L3) := HK2_w14.out.below hb
  clear hb HL_w14 HX_w14 HY_w14 HJ_w14 HM_w14 HK3_w14 HK_w14 HJ2_w14 HM2_w14 HK2_w14
  go_wp2_with fail
  refine (HE.out _ _ _ _ _ _ _ _ HM_w15.out HM2_w15.out HN.out.2.1).mono ?_
  rintro e w16 ⟨rfl, hb⟩
  have S16 : Hid (w15.heap.size ≤ w16.heap.size) := hb.size
  have HL_w16 : Hid (Below w.heap.size w w16) := bel_tr HL_w15.out hb
  have HX_w16 : Hid (Lent w3.heap.size w4.heap.size w16 vx a) := HX_w15.out.below hb
  have HY_w16 : Hid (Lent w4.heap.size w5.heap.size w16 vy b) := HY_w15.out.below hb
  have HJ_w16 : Hid (Rw w5.heap.size w6.heap.size w16 vj L1) := HJ_w15.out.below hb
  have HM_w16 : Hid (Rw w6.heap.size w7.heap.size w16 vm L2) := HM_w15.out.below hb
  have HK3_w16 : Hid (Rw w7.heap.size w8.heap.size w16 vl L3) := HK3_w15.out.below hb
  have HK_w16 : Hid (Rw w9.heap.size w10.heap.size w16 vk L1) := HK_w15.out.below hb
  have HJ2_w16 : Hid (Rw w10.heap.size w11.heap.size w16 vj2 L1) := HJ2_w15.out.below hb
  have HM2_w16 : Hid (Rw w11.heap.size w12.heap.size w16 vm2 L2) := HM2_w15.out.below hb
  have HK2_w16 : Hid (Rw w12.heap.size w13.heap.size w16 vl2 L3) := HK2_w15.out.below hb
  clear hb HL_w15 HX_w15 HY_w15 HJ_w15 HM_w15 HK3_w15 HK_w15 HJ2_w15 HM2_w15 HK2_w15
  go_wp2_with fail
  refine (HE.out _ _ _ _ _ _ _ _ HK3_w16.out HK2_w16.out HN.out.2.2).mono ?_
  rintro e w17 ⟨rfl, hb⟩
  have S17 : Hid (w16.heap.size ≤ w17.heap.size) := hb.size
  have HL_w17 : Hid (Below w.heap.size w w17) := bel_tr HL_w16.out hb
  have HX_w17 : Hid (Lent w3.heap.size w4.heap.size w17 vx a) := HX_w16.out.below hb
  have HY_w17 : Hid (Lent w4.heap.size w5.heap.size w17 vy b) := HY_w16.out.below hb
  have HJ_w17 : Hid (Rw w5.heap.size w6.heap.size w17 vj L1) := HJ_w16.out.below hb
  have HM_w17 : Hid (Rw w6.heap.size w7.heap.size w17 vm L2) := HM_w16.out.below hb
  have HK3_w17 : Hid (Rw w7.heap.size w8.heap.size w17 vl L3) := HK3_w16.out.below hb
  have HK_w17 : Hid (Rw w9.heap.size w10.heap.size w17 vk L1) := HK_w16.out.below hb
  have HJ2_w17 : Hid (Rw w10.heap.size w11.heap.size w17 vj2 L1) := HJ2_w16.out.below hb
  have HM2_w17 : Hid (Rw w11.heap.size w12.heap.size w17 vm2 L2) := HM2_w16.out.below hb
  have HK2_w17 : Hid (Rw w12.heap.size w13.heap.size w17 vl2 L3) := HK2_w16.out.below hb
  clear hb HL_w16 HX_w16 HY_w16 HJ_w16 HM_w16 HK3_w16 HK_w16 HJ2_w16 HM2_w16 HK2_w16
  go_wp2_with fail
  refine (HO.out _ _ _ _ _ HJ_w17.out (by have := S1.out; have := S2.out; have := S3.out; have := S4.out; have := S5.out; have := S6.out; have := S7.out; have := S8.out; have := S9.out; have := S10.out; have := S11.out; have := S12.out; have := S13.out; have := S14.out; have := S15.out; have := S16.out; have := S17.out; omega) HN.out.1).mono ?_
  rintro e w18 ⟨rfl, hb⟩
  have S18 : Hid (w17.heap.size ≤ w18.heap.size) := hb.size
  have HL_w18 : Hid (Below w.heap.size w w18) := grow_below HL_w17.out HJ_w17.out (by have := S1.out; have := S2.out; have := S3.out; have := S4.out; have := S5.out; have := S6.out; have := S7.out; have := S8.out; have := S9.out; have := S10.out; have := S11.out; have := S12.out; have := S13.out; have := S14.out; have := S15.out; have := S16.out; have := S17.out; omega) (HL_w17.out.size) hb
  have HX_w18 : Hid (Lent w3.heap.size w4.heap.size w18 vx a) := HX_w17.out.kept HJ_w17.out (by have := S1.out; have := S2.out; have := S3.out; have := S4.out; have := S5.out; have := S6.out; have := S7.out; have := S8.out; have := S9.out; have := S10.out; have := S11.out; have := S12.out; have := S13.out; have := S14.out; have := S15.out; have := S16.out; have := S17.out; omega) hb
  have HY_w18 : Hid (Lent w4.heap.size w5.heap.size w18 vy b) := HY_w17.out.kept HJ_w17.out (by have := S1.out; have := S2.out; have := S3.out; have := S4.out; have := S5.out; have := S6.out; have := S7.out; have := S8.out; have := S9.out; have := S10.out; have := S11.out; have := S12.out; have := S13.out; have := S14.out; have := S15.out; have := S16.out; have := S17.out; omega) hb
  have HM_w18 : Hid (Rw w6.heap.size w7.heap.size w18 vm L2) := HM_w17.out.kept HJ_w17.out (by have := S1.out; have := S2.out; have := S3.out; have := S4.out; have := S5.out; have := S6.out; have := S7.out; have := S8.out; have := S9.out; have := S10.out; have := S11.out; have := S12.out; have := S13.out; have := S14.out; have := S15.out; have := S16.out; have := S17.out; omega) hb
  have HK3_w18 : Hid (Rw w7.heap.size w8.heap.size w18 vl L3) := HK3_w17.out.kept HJ_w17.out (by have := S1.out; have := S2.out; have := S3.out; have := S4.out; have := S5.out; have := S6.out; have := S7.out; have := S8.out; have := S9.out; have := S10.out; have := S11.out; have := S12.out; have := S13.out; have := S14.out; have := S15.out; have := S16.out; have := S17.out; omega) hb
  have HK_w18 : Hid (Rw w9.heap.size w10.heap.size w18 vk L1) := HK_w17.out.kept HJ_w17.out (by have := S1.out; have := S2.out; have := S3.out; have := S4.out; have := S5.out; have := S6.out; have := S7.out; have := S8.out; have := S9.out; have := S10.out; have := S11.out; have := S12.out; have := S13.out; have := S14.out; have := S15.out; have := S16.out; have := S17.out; omega) hb
  have HJ2_w18 : Hid (Rw w10.heap.size w11.heap.size w18 vj2 L1) := HJ2_w17.out.kept HJ_w17.out (by have := S1.out; have := S2.out; have := S3.out; have := S4.out; have := S5.out; have := S6.out; have := S7.out; have := S8.out; have := S9.out; have := S10.out; have := S11.out; have := S12.out; have := S13.out; have := S14.out; have := S15.out; have := S16.out; have := S17.out; omega) hb
  have HM2_w18 : Hid (Rw w11.heap.size w12.heap.size w18 vm2 L2) := HM2_w17.out.kept HJ_w17.out (by have := S1.out; have := S2.out; have := S3.out; have := S4.out; have := S5.out; have := S6.out; have := S7.out; have := S8.out; have := S9.out; have := S10.out; have := S11.out; have := S12.out; have := S13.out; have := S14.out; have := S15.out; have := S16.out; have := S17.out; omega) hb
  have HK2_w18 : Hid (Rw w12.heap.size w13.heap.size w18 vl2 L3) := HK2_w17.out.kept HJ_w17.out (by have := S1.out; have := S2.out; have := S3.out; have := S4.out; have := S5.out; have := S6.out; have := S7.out; have := S8.out; have := S9.out; have := S10.out; have := S11.out; have := S12.out; have := S13.out; have := S14.out; have := S15.out; have := S16.out; have := S17.out; omega) hb
  clear hb HL_w17 HX_w17 HY_w17 HJ_w17 HM_w17 HK3_w17 HK_w17 HJ2_w17 HM2_w17 HK2_w17
  go_wp2_with fail
  refine (HO.out _ _ _ _ _ HM_w18.out (by have := S1.out; have := S2.out; have := S3.out; have := S4.out; have := S5.out; have := S6.out; have := S7.out; have := S8.out; have := S9.out; have := S10.out; have := S11.out; have := S12.out; have := S13.out; have := S14.out; have := S15.out; have := S16.out; have := S17.out; have := S18.out; omega) HN.out.2.1).mono ?_
  rintro e w19 ⟨rfl, hb⟩
  have S19 : Hid (w18.heap.size ≤ w19.heap.size) := hb.size
  have HL_w19 : Hid (Below w.heap.size w w19) := grow_below HL_w18.out HM_w18.out (by have := S1.out; have := S2.out; have := S3.out; have := S4.out; have := S5.out; have := S6.out; have := S7.out; have := S8.out; have := S9.out; have := S10.out; have := S11.out; have := S12.out; have := S13.out; have := S14.out; have := S15.out; have := S16.out; have := S17.out; have := S18.out; omega) (HL_w18.out.size) hb
  have HX_w19 : Hid (Lent w3.heap.size w4.heap.size w19 vx a) := HX_w18.out.kept HM_w18.out (by have := S1.out; have := S2.out; have := S3.out; have := S4.out; have := S5.out; have := S6.out; have := S7.out; have := S8.out; have := S9.out; have := S10.out; have := S11.out; have := S12.out; have := S13.out; have := S14.out; have := S15.out; have := S16.out; have := S17.out; have := S18.out; omega) hb
  have HY_w19 : Hid (Lent w4.heap.size w5.heap.size w19 vy b) := HY_w18.out.kept HM_w18.out (by have := S1.out; have := S2.out; have := S3.out; have := S4.out; have := S5.out; have := S6.out; have := S7.out; have := S8.out; have := S9.out; have := S10.out; have := S11.out; have := S12.out; have := S13.out; have := S14.out; have := S15.out; have := S16.out; have := S17.out; have := S18.out; omega) hb
  have HK3_w19 : Hid (Rw w7.heap.size w8.heap.size w19 vl L3) := HK3_w18.out.kept HM_w18.out (by have := S1.out; have := S2.out; have := S3.out; have := S4.out; have := S5.out; have := S6.out; have := S7.out; have := S8.out; have := S9.out; have := S10.out; have := S11.out; have := S12.out; have := S13.out; have := S14.out; have := S15.out; have := S16.out; have := S17.out; have := S18.out; omega) hb
  have HK_w19 : Hid (Rw w9.heap.size w10.heap.size w19 vk L1) := HK_w18.out.kept HM_w18.out (by have := S1.out; have := S2.out; have := S3.out; have := S4.out; have := S5.out; have := S6.out; have := S7.out; have := S8.out; have := S9.out; have := S10.out; have := S11.out; have := S12.out; have := S13.out; have := S14.out; have := S15.out; have := S16.out; have := S17.out; have := S18.out; omega) hb
  have HJ2_w19 : Hid (Rw w10.heap.size w11.heap.size w19 vj2 L1) := HJ2_w18.out.kept HM_w18.out (by have := S1.out; have := S2.out; have := S3.out; have := S4.out; have := S5.out; have := S6.out; have := S7.out; have := S8.out; have := S9.out; have := S10.out; have := S11.out; have := S12.out; have := S13.out; have := S14.out; have := S15.out; have := S16.out; have := S17.out; have := S18.out; omega) hb
  have HM2_w19 : Hid (Rw w11.heap.size w12.heap.size w19 vm2 L2) := HM2_w18.out.kept HM_w18.out (by have := S1.out; have := S2.out; have := S3.out; have := S4.out; have := S5.out; have := S6.out; have := S7.out; have := S8.out; have := S9.out; have := S10.out; have := S11.out; have := S12.out; have := S13.out; have := S14.out; have := S15.out; have := S16.out; have := S17.out; have := S18.out; omega) hb
  have HK2_w19 : Hid (Rw w12.heap.size w13.heap.size w19 vl2 L3) := HK2_w18.out.kept HM_w18.out (by have := S1.out; have := S2.out; have := S3.out; have := S4.out; have := S5.out; have := S6.out; have := S7.out; have := S8.out; have := S9.out; have := S10.out; have := S11.out; have := S12.out; have := S13.out; have := S14.out; have := S15.out; have := S16.out; have := S17.out; have := S18.out; omega) hb
  clear hb HL_w18 HX_w18 HY_w18 HM_w18 HK3_w18 HK_w18 HJ2_w18 HM2_w18 HK2_w18
  go_wp2_with fail
  refine (HO.out _ _ _ _ _ HK3_w19.out (by have := S1.out; have := S2.out; have := S3.out; have := S4.out; have := S5.out; have := S6.out; have := S7.out; have := S8.out; have := S9.out; have := S10.out; have := S11.out; have := S12.out; have := S13.out; have := S14.out; have := S15.out; have := S16.out; have := S17.out; have := S18.out; have := S19.out; omega) HN.out.2.2).mono ?_
  rintro e w20 ⟨rfl, hb⟩
  have S20 : Hid (w19.heap.size ≤ w20.heap.size) := hb.size
  have HL_w20 : Hid (Below w.heap.size w w20) := grow_below HL_w19.out HK3_w19.out (by have := S1.out; have := S2.out; have := S3.out; have := S4.out; have := S5.out; have := S6.out; have := S7.out; have := S8.out; have := S9.out; have := S10.out; have := S11.out; have := S12.out; have := S13.out; have := S14.out; have := S15.out; have := S16.out; have := S17.out; have := S18.out; have := S19.out; omega) (HL_w19.out.size) hb
  have HX_w20 : Hid (Lent w3.heap.size w4.heap.size w20 vx a) := HX_w19.out.kept HK3_w19.out (by have := S1.out; have := S2.out; have := S3.out; have := S4.out; have := S5.out; have := S6.out; have := S7.out; have := S8.out; have := S9.out; have := S10.out; have := S11.out; have := S12.out; have := S13.out; have := S14.out; have := S15.out; have := S16.out; have := S17.out; have := S18.out; have := S19.out; omega) hb
  have HY_w20 : Hid (Lent w4.heap.size w5.heap.size w20 vy b) := HY_w19.out.kept HK3_w19.out (by have := S1.out; have := S2.out; have := S3.out; have := S4.out; have := S5.out; have := S6.out; have := S7.out; have := S8.out; have := S9.out; have := S10.out; have := S11.out; have := S12.out; have := S13.out; have := S14.out; have := S15.out; have := S16.out; have := S17.out; have := S18.out; have := S19.out; omega) hb
  have HK_w20 : Hid (Rw w9.heap.size w10.heap.size w20 vk L1) := HK_w19.out.kept HK3_w19.out (by have := S1.out; have := S2.out; have := S3.out; have := S4.out; have := S5.out; have := S6.out; have := S7.out; have := S8.out; have := S9.out; have := S10.out; have := S11.out; have := S12.out; have := S13.out; have := S14.out; have := S15.out; have := S16.out; have := S17.out; have := S18.out; have := S19.out; omega) hb
  have HJ2_w20 : Hid (Rw w10.heap.size w11.heap.size w20 vj2 L1) := HJ2_w19.out.kept HK3_w19.out (by have := S1.out; have := S2.out; have := S3.out; have := S4.out; have := S5.out; have := S6.out; have := S7.out; have := S8.out; have := S9.out; have := S10.out; have := S11.out; have := S12.out; have := S13.out; have := S14.out; have := S15.out; have := S16.out; have := S17.out; have := S18.out; have := S19.out; omega) hb
  have HM2_w20 : Hid (Rw w11.heap.size w12.heap.size w20 vm2 L2) := HM2_w19.out.kept HK3_w19.out (by have := S1.out; have := S2.out; have := S3.out; have := S4.out; have := S5.out; have := S6.out; have := S7.out; have := S8.out; have := S9.out; have := S10.out; have := S11.out; have := S12.out; have := S13.out; have := S14.out; have := S15.out; have := S16.out; have := S17.out; have := S18.out; have := S19.out; omega) hb
  have HK2_w20 : Hid (Rw w12.heap.size w13.heap.size w20 vl2 L3) := HK2_w19.out.kept HK3_w19.out (by have := S1.out; have := S2.out; have := S3.out; have := S4.out; have := S5.out; have := S6.out; have := S7.out; have := S8.out; have := S9.out; have := S10.out; have := S11.out; have := S12.out; have := S13.out; have := S14.out; have := S15.out; have := S16.out; have := S17.out; have := S18.out; have := S19.out; omega) hb
  clear hb HL_w19 HX_w19 HY_w19 HK3_w19 HK_w19 HJ2_w19 HM2_w19 HK2_w19
  go_wp2_with fail
  refine (HE.out _ _ _ _ _ _ _ _ HK_w20.out HJ2_w20.out HN.out.1).mono ?_
  rintro e w21 ⟨rfl, hb⟩
  have S21 : Hid (w20.heap.size ≤ w21.heap.size) := hb.size
  have HL_w21 : Hid (Below w.heap.size w w21) := bel_tr HL_w20.out hb
  have HX_w21 : Hid (Lent w3.heap.size w4.heap.size w21 vx a) := HX_w20.out.below hb
  have HY_w21 : Hid (Lent w4.heap.size w5.heap.size w21 vy b) := HY_w20.out.below hb
  have HK_w21 : Hid (Rw w9.heap.size w10.heap.size w21 vk L1) := HK_w20.out.below hb
  have HJ2_w21 : Hid (Rw w10.heap.size w11.heap.size w21 vj2 L1) := HJ2_w20.out.below hb
  have HM2_w21 : Hid (Rw w11.heap.size w12.heap.size w21 vm2 L2) := HM2_w20.out.below hb
  have HK2_w21 : Hid (Rw w12.heap.size w13.heap.size w21 vl2 L3) := HK2_w20.out.below hb
  clear hb HL_w20 HX_w20 HY_w20 HK_w20 HJ2_w20 HM2_w20 HK2_w20
  go_wp2_with fail
  refine (HKa.out _ _ _ _ HX_w21.out HL_w21.out).mono ?_
  rintro e w22 ⟨rfl, hb⟩
  have S22 : Hid (w21.heap.size ≤ w22.heap.size) := hb.size
  have HL_w22 : Hid (Below w.heap.size w w22) := bel_tr HL_w21.out hb
  have HX_w22 : Hid (Lent w3.heap.size w4.heap.size w22 vx a) := HX_w21.out.below hb
  have HY_w22 : Hid (Lent w4.heap.size w5.heap.size w22 vy b) := HY_w21.out.below hb
  have HK_w22 : Hid (Rw w9.heap.size w10.heap.size w22 vk L1) := HK_w21.out.below hb
  have HJ2_w22 : Hid (Rw w10.heap.size w11.heap.size w22 vj2 L1) := HJ2_w21.out.below hb
  have HM2_w22 : Hid (Rw w11.heap.size w12.heap.size w22 vm2 L2) := HM2_w21.out.below hb
  have HK2_w22 : Hid (Rw w12.heap.size w13.heap.size w22 vl2 L3) := HK2_w21.out.below hb
  clear hb HL_w21 HX_w21 HY_w21 HK_w21 HJ2_w21 HM2_w21 HK2_w21
  go_wp2_with fail
  refine (HKb.out _ _ _ _ HY_w22.out HL_w22.out).mono ?_
  rintro e w23 ⟨rfl, hb⟩
  have S23 : Hid (w22.heap.size ≤ w23.heap.size) := hb.size
  have HL_w23 : Hid (Below w.heap.size w w23) := bel_tr HL_w22.out hb
  have HX_w23 : Hid (Lent w3.heap.size w4.heap.size w23 vx a) := HX_w22.out.below hb
  have HY_w23 : Hid (Lent w4.heap.size w5.heap.size w23 vy b) := HY_w22.out.below hb
  have HK_w23 : Hid (Rw w9.heap.size w10.heap.size w23 vk L1) := HK_w22.out.below hb
  have HJ2_w23 : Hid (Rw w10.heap.size w11.heap.size w23 vj2 L1) := HJ2_w22.out.below hb
  have HM2_w23 : Hid (Rw w11.heap.size w12.heap.size w23 vm2 L2) := HM2_w22.out.below hb
  have HK2_w23 : Hid (Rw w12.heap.size w13.heap.size w23 vl2 L3) := HK2_w22.out.below hb
  clear hb HL_w22 HX_w22 HY_w22 HK_w22 HJ2_w22 HM2_w22 HK2_w22
  go_wp2
  go_ret
  exact ⟨rfl, HL_w23.out⟩

end Go.Proofs.Ytagkbpceiedikaa
