/-
  The walk of the statement RegionOnes.
-/
import Derived.Test.YtagkbpceiedikaaH10a
import Derived.Test.YtagkbpceiedikaaH10b
import Derived.Test.YtagkbpceiedikaaH10c
namespace Go.Proofs.Ytagkbpceiedikaa
open Go.RowKit Go.Shelf

theorem bk_kept {lo hi b : Nat} {W W' : World} {vs : Array Value} {t : TypeId} {v : Value} {G : List Rc} (h : Bk W b vs t) (k : Rw lo hi W v G) (hd : b < lo) (hg : W.grownBy W' v.ownBlock) : Bk W' b vs t := by
  refine h.grown hg fun e => ?_
  have := (k.1.lt b e).1
  omega
theorem i64_ans (a : List Rc) : I64s (ansL (lisE a) (formF false a [])) := by
  unfold ansL
  split
  · exact i64_keep (form_keep _ _ _)
  · intro r hr; cases hr
theorem mov_short (a : List Rc) (p q : Int) : (movA a p q).1.length ≤ 3000 := by
  have h := ansL_short 0 (formF false a [])
  unfold movA
  split
  · split
    · split
      · simp only [List.length_map]; exact h
      · simp
    · simp
  · simp

set_option maxRecDepth 20000 in
set_option maxHeartbeats 40000000 in
theorem ones_walk (a : List Rc) (va : Value) (px py qx qy : Int) (w : World) (ha : LsR w va a) (ia : I64s a) (na : NoNil va) :
    Calls Try.prog 5 #[va, .agg #[.int .i64 px, .int .i64 py], .agg #[.int .i64 qx, .int .i64 qy]] w fun e w' => e = .returned (.bool true) ∧ Below w.heap.size w w' := by
  obtain ⟨oa, ca, hva, _, _⟩ := id ha
  have HWa : Hid (∀ W, Calls Try.prog 19 #[va] W fun e w' => e = .returned (.bool (wrkB a.length)) ∧ Below W.heap.size W w') := fun W => by rw [hva]; exact work_any _ _ _ W
  clear hva
  obtain ⟨w0, ew0⟩ : ∃ W, W = (w.alloc (.cells #[.int .i64 px, .int .i64 py] 31)).alloc (.cells #[.int .i64 qx, .int .i64 qy] 31) := ⟨_, rfl⟩
  have hq : Below w.heap.size w (w.alloc (.cells #[.int .i64 px, .int .i64 py] 31)) := (Below.refl _ _).alloc (Nat.le_refl _) _
  have hq2 : Below (w.alloc (.cells #[.int .i64 px, .int .i64 py] 31)).heap.size (w.alloc (.cells #[.int .i64 px, .int .i64 py] 31)) w0 := by rw [ew0]; exact (Below.refl _ _).alloc (Nat.le_refl _) _
  have HL_w0 : Hid (Below w.heap.size w w0) := bel_tr hq hq2
  have HP_w0 : Hid (Bk w0 w.heap.size #[.int .i64 px, .int .i64 py] 31) := (Bk.new _ _ _).below hq2
  have HQ_w0 : Hid (Bk w0 (w.heap.size + 1) #[.int .i64 qx, .int .i64 qy] 31) := by
    have h := Bk.new (w.alloc (.cells #[.int .i64 px, .int .i64 py] 31)) #[.int .i64 qx, .int .i64 qy] 31
    rw [← ew0] at h
    have e : (w.alloc (.cells #[.int .i64 px, .int .i64 py] 31)).heap.size = w.heap.size + 1 := by simp
    rw [e] at h
    exact h
  have S0 : Hid (w.heap.size + 2 ≤ w0.heap.size) := by rw [ew0]; show _ ≤ _; simp
  clear hq hq2
  cases pa : wrkB a.length
  case true =>
    rw [pa] at HWa
    clear ha ia na pa
    go_enter Try.func5, Try.ntmps5
    go_wp2_with fail
    rw [← ew0]; clear ew0
    refine (alive_any _).mono ?_
    rintro e w1 ⟨rfl, hb1⟩
    have H1 : Hid (Below w.heap.size w w1) := bel_tr HL_w0.out hb1
    clear hb1
    go_wp2_with fail
    refine (HWa.out _).mono ?_
    rintro e w2 ⟨rfl, hb2⟩
    have H2 : Hid (Below w.heap.size w w2) := bel_tr H1.out hb2
    clear hb2
    go_wp2
    go_ret
    exact ⟨rfl, H2.out⟩
  rw [pa] at HWa
  have la := wrk_no pa
  clear pa
  have HLa : Hid (∀ W, Below w.heap.size w W → Calls Try.prog 20 #[va] W fun e w' => ∃ u, e = .returned u ∧ Lent W.heap.size w'.heap.size w' u a ∧ Below W.heap.size W w') := fun W h => lent_any a va W (ha.below h) na la
  have HF : Hid (∀ W x lo hi, Lent lo hi W x a → Calls Try.prog 11 #[x] W fun e w' => Ans W (ansL (lisE a) (formF false a [])) (ansE (lisE a) (formF false a [])) e w') := fun W x lo hi h => of_any a x W h.lsr.1 ia
  have HM : Hid (∀ W x lo hi, Lent lo hi W x a → Calls Try.prog 15 #[x, .agg #[.int .i64 qx, .int .i64 qy]] W fun e w' => Ans W (movA a qx qy).1 (movA a qx qy).2 e w') := fun W x lo hi h => moved_any a x qx qy W h.lsr.1 ia
  have HA : Hid (∀ W x lo hi, Lent lo hi W x a → Calls Try.prog 14 #[x] W fun e w' => e = .returned (.tuple #[.int .i64 (areA a), .int .i64 (lisE a)]) ∧ Below W.heap.size W w') := fun W x lo hi h => areaL_any a x W h.lsr.1 ia
  have HH : Hid (∀ W x lo hi, Lent lo hi W x a → Calls Try.prog 29 #[x, .agg #[.int .i64 px, .int .i64 py]] W fun e w' => e = .returned (.tuple #[.bool (decide (lisE a = 0) && hasC a px py), .int .i64 (lisE a)]) ∧ Below W.heap.size W w') := fun W x lo hi h => hasL_any a x px py W h.lsr.1 ia
  have HB : Hid (∀ W x lo hi, Lent lo hi W x a → Calls Try.prog 30 #[x] W fun e w' => e = .returned (.tuple #[.agg #[.int .i64 (bouR a).x, .int .i64 (bouR a).y, .int .i64 (bouR a).w, .int .i64 (bouR a).h], .int .i64 (lisE a)]) ∧ Below W.heap.size W w') := fun W x lo hi h => boundL_any a x W h.lsr.1 ia
  have HC : Hid (∀ W x lo hi, Lent lo hi W x a → Calls Try.prog 13 #[x] W fun e w' => e = .returned (.int .i64 (chkE a)) ∧ Below W.heap.size W w') := fun W x lo hi h => checkL_any a x W h.lsr.1 ia
  have DF : Hid (∀ W, Below w.heap.size w W → Calls Try.prog 31 #[va] W fun e w' => Ans W (ansL (lisE a) (formF false a [])) (ansE (lisE a) (formF false a [])) e w') := fun W h => dof_any a va W (ha.below h)
  have DM : Hid (∀ W, Below w.heap.size w W → Calls Try.prog 32 #[va, .agg #[.int .i64 qx, .int .i64 qy]] W fun e w' => Ans W (movA a qx qy).1 (movA a qx qy).2 e w') := fun W h => dmoved_any a va qx qy W (ha.below h)
  have DA : Hid (∀ W, Below w.heap.size w W → Calls Try.prog 33 #[va] W fun e w' => e = .returned (.tuple #[.int .i64 (areA a), .int .i64 (lisE a)]) ∧ Below W.heap.size W w') := fun W h => darea_any a va W (ha.below h)
  have DH : Hid (∀ W, Below w.heap.size w W → Calls Try.prog 34 #[va, .agg #[.int .i64 px, .int .i64 py]] W fun e w' => e = .returned (.tuple #[.bool (decide (lisE a = 0) && hasC a px py), .int .i64 (lisE a)]) ∧ Below W.heap.size W w') := fun W h => dhasA_any a va px py W (ha.below h)
  have DB : Hid (∀ W, Below w.heap.size w W → Calls Try.prog 35 #[va] W fun e w' => e = .returned (.tuple #[.agg #[.int .i64 (bouR a).x, .int .i64 (bouR a).y, .int .i64 (bouR a).w, .int .i64 (bouR a).h], .int .i64 (lisE a)]) ∧ Below W.heap.size W w') := fun W h => dbound_any a va W (ha.below h)
  have DC : Hid (∀ W, Below w.heap.size w W → Calls Try.prog 36 #[va] W fun e w' => e = .returned (.int .i64 (chkE a)) ∧ Below W.heap.size W w') := fun W h => dcheck_any a va W (ha.below h)
  have HC2 : Hid (∀ W v lo hi, Rw lo hi W v (ansL (lisE a) (formF false a [])) → Calls Try.prog 13 #[v] W fun e w' => e = .returned (.int .i64 (chkE (ansL (lisE a) (formF false a [])))) ∧ Below W.heap.size W w') := fun W v lo hi h => checkL_any _ v W h.lsr (i64_ans a)
  have DC2 : Hid (∀ W v lo hi, Rw lo hi W v (ansL (lisE a) (formF false a [])) → Calls Try.prog 36 #[v] W fun e w' => e = .returned (.int .i64 (chkE (ansL (lisE a) (formF false a [])))) ∧ Below W.heap.size W w') := fun W v lo hi h => dcheck_any _ v W h.lsr
  have HE : Hid (∀ W v u lo hi lo' hi' F, Rw lo hi W v F → Rw lo' hi' W u F → F.length ≤ 3000 → Calls Try.prog 18 #[v, u] W fun e w' => e = .returned (.bool true) ∧ Below W.heap.size W w') := fun W v u lo hi lo' hi' F h1 h2 h3 => by
    have q := sameW_any F F v u W h1.lsr h2.lsr (by omega)
    rwa [(sameB_iff F F).2 rfl] at q
  have HO : Hid (∀ W v lo hi F, Rw lo hi W v F → lo ≤ W.heap.size → F.length ≤ 3000 → Calls Try.prog 27 #[v] W fun e w' => e = .returned (.tuple #[]) ∧ W.grownBy w' v.ownBlock) := fun W v lo hi F h1 h2 h3 => over_any lo F v W h1.1 h2 h3
  have HKa : Hid (∀ W x lo hi, Lent lo hi W x a → Below w.heap.size w W → Calls Try.prog 28 #[x, va] W fun e w' => e = .returned (.bool true) ∧ Below W.heap.size W w') := fun W x lo hi h1 h2 => keptL_any lo hi a x va W h1 (ha.below h2) la
  have HN : Hid ((ansL (lisE a) (formF false a [])).length ≤ 3000 ∧ (movA a qx qy).1.length ≤ 3000) := ⟨ansL_short _ _, mov_short _ _ _⟩
  generalize chkE (ansL (lisE a) (formF false a [])) = c2 at *
  generalize ansL (lisE a) (formF false a []) = L1 at *
  generalize ansE (lisE a) (formF false a []) = E1 at *
  generalize (movA a qx qy).1 = L2 at *
  generalize (movA a qx qy).2 = E2 at *
  generalize areA a = nA at *
  generalize (decide (lisE a = 0) && hasC a px py) = hB at *
  generalize bouR a = T at *
  generalize chkE a = c1 at *
  generalize lisE a = E4 at *
  clear ha ia na la
  go_enter Try.func5, Try.ntmps5
  go_wp2_with fail
  rw [← ew0]; clear ew0
  refine (alive_any _).mono ?_
  rintro e w1 ⟨rfl, hb⟩
  have S1 : Hid (w0.heap.size ≤ w1.heap.size) := hb.size
  have HL_w1 : Hid (Below w.heap.size w w1) := bel_tr HL_w0.out hb
  have HP_w1 : Hid (Bk w1 w.heap.size #[.int .i64 px, .int .i64 py] 31) := HP_w0.out.below hb
  have HQ_w1 : Hid (Bk w1 (w.heap.size + 1) #[.int .i64 qx, .int .i64 qy] 31) := HQ_w0.out.below hb
  clear hb HL_w0 HP_w0 HQ_w0
  go_wp2_with fail
  refine (HWa.out _).mono ?_
  rintro e w2 ⟨rfl, hb⟩
  have S2 : Hid (w1.heap.size ≤ w2.heap.size) := hb.size
  have HL_w2 : Hid (Below w.heap.size w w2) := bel_tr HL_w1.out hb
  have HP_w2 : Hid (Bk w2 w.heap.size #[.int .i64 px, .int .i64 py] 31) := HP_w1.out.below hb
  have HQ_w2 : Hid (Bk w2 (w.heap.size + 1) #[.int .i64 qx, .int .i64 qy] 31) := HQ_w1.out.below hb
  clear hb HL_w1 HP_w1 HQ_w1
  go_wp2_with fail
  refine (HLa.out _ HL_w2.out).mono ?_
  rintro e w3 ⟨vx, rfl, hx, hb⟩
  have S3 : Hid (w2.heap.size ≤ w3.heap.size) := hb.size
  have HL_w3 : Hid (Below w.heap.size w w3) := bel_tr HL_w2.out hb
  have HP_w3 : Hid (Bk w3 w.heap.size #[.int .i64 px, .int .i64 py] 31) := HP_w2.out.below hb
  have HQ_w3 : Hid (Bk w3 (w.heap.size + 1) #[.int .i64 qx, .int .i64 qy] 31) := HQ_w2.out.below hb
  have HX_w3 : Hid (Lent w2.heap.size w3.heap.size w3 vx a) := hx
  clear hb HL_w2 HP_w2 HQ_w2
  clear hx
  go_wp2_with fail
  refine (HF.out _ _ _ _ HX_w3.out).mono ?_
  rintro e w4 ⟨vf, rfl, ho, hb⟩
  have S4 : Hid (w3.heap.size ≤ w4.heap.size) := hb.size
  have HL_w4 : Hid (Below w.heap.size w w4) := bel_tr HL_w3.out hb
  have HP_w4 : Hid (Bk w4 w.heap.size #[.int .i64 px, .int .i64 py] 31) := HP_w3.out.below hb
  have HQ_w4 : Hid (Bk w4 (w.heap.size + 1) #[.int .i64 qx, .int .i64 qy] 31) := HQ_w3.out.below hb
  have HX_w4 : Hid (Lent w2.heap.size w3.heap.size w4 vx a) := HX_w3.out.below hb
  have HF_w4 : Hid (Rw w3.heap.size w4.heap.size w4 vf L1) := rw_of ho
  clear hb HL_w3 HP_w3 HQ_w3 HX_w3
  clear ho
  obtain ⟨y0, y1⟩ := HQ_w4.out.at2
  go_wp2_with fail
  refine (HM.out _ _ _ _ HX_w4.out).mono ?_
  rintro e w5 ⟨vm, rfl, ho, hb⟩
  have S5 : Hid (w4.heap.size ≤ w5.heap.size) := hb.size
  have HL_w5 : Hid (Below w.heap.size w w5) := bel_tr HL_w4.out hb
  have HP_w5 : Hid (Bk w5 w.heap.size #[.int .i64 px, .int .i64 py] 31) := HP_w4.out.below hb
  have HQ_w5 : Hid (Bk w5 (w.heap.size + 1) #[.int .i64 qx, .int .i64 qy] 31) := HQ_w4.out.below hb
  have HX_w5 : Hid (Lent w2.heap.size w3.heap.size w5 vx a) := HX_w4.out.below hb
  have HF_w5 : Hid (Rw w3.heap.size w4.heap.size w5 vf L1) := HF_w4.out.below hb
  have HM_w5 : Hid (Rw w4.heap.size w5.heap.size w5 vm L2) := rw_of ho
  clear hb HL_w4 HP_w4 HQ_w4 HX_w4 HF_w4
  clear ho y0 y1
  go_wp2_with fail
  refine (HA.out _ _ _ _ HX_w5.out).mono ?_
  rintro e w6 ⟨rfl, hb⟩
  have S6 : Hid (w5.heap.size ≤ w6.heap.size) := hb.size
  have HL_w6 : Hid (Below w.heap.size w w6) := bel_tr HL_w5.out hb
  have HP_w6 : Hid (Bk w6 w.heap.size #[.int .i64 px, .int .i64 py] 31) := HP_w5.out.below hb
  have HQ_w6 : Hid (Bk w6 (w.heap.size + 1) #[.int .i64 qx, .int .i64 qy] 31) := HQ_w5.out.below hb
  have HX_w6 : Hid (Lent w2.heap.size w3.heap.size w6 vx a) := HX_w5.out.below hb
  have HF_w6 : Hid (Rw w3.heap.size w4.heap.size w6 vf L1) := HF_w5.out.below hb
  have HM_w6 : Hid (Rw w4.heap.size w5.heap.size w6 vm L2) := HM_w5.out.below hb
  clear hb HL_w5 HP_w5 HQ_w5 HX_w5 HF_w5 HM_w5
  obtain ⟨y0, y1⟩ := HP_w6.out.at2
  go_wp2_with fail
  refine (HH.out _ _ _ _ HX_w6.out).mono ?_
  rintro e w7 ⟨rfl, hb⟩
  have S7 : Hid (w6.heap.size ≤ w7.heap.size) := hb.size
  have HL_w7 : Hid (Below w.heap.size w w7) := bel_tr HL_w6.out hb
  have HP_w7 : Hid (Bk w7 w.heap.size #[.int .i64 px, .int .i64 py] 31) := HP_w6.out.below hb
  have HQ_w7 : Hid (Bk w7 (w.heap.size + 1) #[.int .i64 qx, .int .i64 qy] 31) := HQ_w6.out.below hb
  have HX_w7 : Hid (Lent w2.heap.size w3.heap.size w7 vx a) := HX_w6.out.below hb
  have HF_w7 : Hid (Rw w3.heap.size w4.heap.size w7 vf L1) := HF_w6.out.below hb
  have HM_w7 : Hid (Rw w4.heap.size w5.heap.size w7 vm L2) := HM_w6.out.below hb
  clear hb HL_w6 HP_w6 HQ_w6 HX_w6 HF_w6 HM_w6
  clear y0 y1
  go_wp2_with fail
  refine (HB.out _ _ _ _ HX_w7.out).mono ?_
  rintro e w8 ⟨rfl, hb⟩
  have S8 : Hid (w7.heap.size ≤ w8.heap.size) := hb.size
  have HL_w8 : Hid (Below w.heap.size w w8) := bel_tr HL_w7.out hb
  have HP_w8 : Hid (Bk w8 w.heap.size #[.int .i64 px, .int .i64 py] 31) := HP_w7.out.below hb
  have HQ_w8 : Hid (Bk w8 (w.heap.size + 1) #[.int .i64 qx, .int .i64 qy] 31) := HQ_w7.out.below hb
  have HX_w8 : Hid (Lent w2.heap.size w3.heap.size w8 vx a) := HX_w7.out.below hb
  have HF_w8 : Hid (Rw w3.heap.size w4.heap.size w8 vf L1) := HF_w7.out.below hb
  have HM_w8 : Hid (Rw w4.heap.size w5.heap.size w8 vm L2) := HM_w7.out.below hb
  clear hb HL_w7 HP_w7 HQ_w7 HX_w7 HF_w7 HM_w7
  obtain ⟨w9, ew9⟩ : ∃ W, W = w8.alloc (.cells #[.int .i64 T.x, .int .i64 T.y, .int .i64 T.w, .int .i64 T.h] 35) := ⟨_, rfl⟩
  have hb : Below w8.heap.size w8 w9 := by rw [ew9]; exact (Below.refl _ _).alloc (Nat.le_refl _) _
  have S9 : Hid (w8.heap.size ≤ w9.heap.size) := hb.size
  have HL_w9 : Hid (Below w.heap.size w w9) := bel_tr HL_w8.out hb
  have HP_w9 : Hid (Bk w9 w.heap.size #[.int .i64 px, .int .i64 py] 31) := HP_w8.out.below hb
  have HQ_w9 : Hid (Bk w9 (w.heap.size + 1) #[.int .i64 qx, .int .i64 qy] 31) := HQ_w8.out.below hb
  have HX_w9 : Hid (Lent w2.heap.size w3.heap.size w9 vx a) := HX_w8.out.below hb
  have HF_w9 : Hid (Rw w3.heap.size w4.heap.size w9 vf L1) := HF_w8.out.below hb
  have HM_w9 : Hid (Rw w4.heap.size w5.heap.size w9 vm L2) := HM_w8.out.below hb
  have HB1_w9 : Hid (Bk w9 w8.heap.size #[.int .i64 T.x, .int .i64 T.y, .int .i64 T.w, .int .i64 T.h] 35) := by rw [ew9]; exact Bk.new _ _ _
  clear hb HL_w8 HP_w8 HQ_w8 HX_w8 HF_w8 HM_w8
  go_wp2_with fail
  rw [← ew9]; clear ew9
  refine (HF.out _ _ _ _ HX_w9.out).mono ?_
  rintro e w10 ⟨vg, rfl, ho, hb⟩
  have S10 : Hid (w9.heap.size ≤ w10.heap.size) := hb.size
  have HL_w10 : Hid (Below w.heap.size w w10) := bel_tr HL_w9.out hb
  have HP_w10 : Hid (Bk w10 w.heap.size #[.int .i64 px, .int .i64 py] 31) := HP_w9.out.below hb
  have HQ_w10 : Hid (Bk w10 (w.heap.size + 1) #[.int .i64 qx, .int .i64 qy] 31) := HQ_w9.out.below hb
  have HX_w10 : Hid (Lent w2.heap.size w3.heap.size w10 vx a) := HX_w9.out.below hb
  have HF_w10 : Hid (Rw w3.heap.size w4.heap.size w10 vf L1) := HF_w9.out.below hb
  have HM_w10 : Hid (Rw w4.heap.size w5.heap.size w10 vm L2) := HM_w9.out.below hb
  have HB1_w10 : Hid (Bk w10 w8.heap.size #[.int .i64 T.x, .int .i64 T.y, .int .i64 T.w, .int .i64 T.h] 35) := HB1_w9.out.below hb
  have HG_w10 : Hid (Rw w9.heap.size w10.heap.size w10 vg L1) := rw_of ho
  clear hb HL_w9 HP_w9 HQ_w9 HX_w9 HF_w9 HM_w9 HB1_w9
  clear ho
  go_wp2_with fail
  refine (DF.out _ HL_w10.out).mono ?_
  rintro e w11 ⟨vf2, rfl, ho, hb⟩
  have S11 : Hid (w10.heap.size ≤ w11.heap.size) := hb.size
  have HL_w11 : Hid (Below w.heap.size w w11) := bel_tr HL_w10.out hb
  have HP_w11 : Hid (Bk w11 w.heap.size #[.int .i64 px, .int .i64 py] 31) := HP_w10.out.below hb
  have HQ_w11 : Hid (Bk w11 (w.heap.size + 1) #[.int .i64 qx, .int .i64 qy] 31) := HQ_w10.out.below hb
  have HX_w11 : Hid (Lent w2.heap.size w3.heap.size w11 vx a) := HX_w10.out.below hb
  have HF_w11 : Hid (Rw w3.heap.size w4.heap.size w11 vf L1) := HF_w10.out.below hb
  have HM_w11 : Hid (Rw w4.heap.size w5.heap.size w11 vm L2) := HM_w10.out.below hb
  have HB1_w11 : Hid (Bk w11 w8.heap.size #[.int .i64 T.x, .int .i64 T.y, .int .i64 T.w, .int .i64 T.h] 35) := HB1_w10.out.below hb
  have HG_w11 : Hid (Rw w9.heap.size w10.heap.size w11 vg L1) := HG_w10.out.below hb
  have HF2_w11 : Hid (Rw w10.heap.size w11.heap.size w11 vf2 L1) := rw_of ho
  clear hb HL_w10 HP_w10 HQ_w10 HX_w10 HF_w10 HM_w10 HB1_w10 HG_w10
  clear ho
  obtain ⟨y0, y1⟩ := HQ_w11.out.at2
  go_wp2_with fail
  refine (DM.out _ HL_w11.out).mono ?_
  rintro e w12 ⟨vm2, rfl, ho, hb⟩
  have S12 : Hid (w11.heap.size ≤ w12.heap.size) := hb.size
  have HL_w12 : Hid (Below w.heap.size w w12) := bel_tr HL_w11.out hb
  have HP_w12 : Hid (Bk w12 w.heap.size #[.int .i64 px, .int .i64 py] 31) := HP_w11.out.below hb
  have HQ_w12 : Hid (Bk w12 (w.heap.size + 1) #[.int .i64 qx, .int .i64 qy] 31) := HQ_w11.out.below hb
  have HX_w12 : Hid (Lent w2.heap.size w3.heap.size w12 vx a) := HX_w11.out.below hb
  have HF_w12 : Hid (Rw w3.heap.size w4.heap.size w12 vf L1) := HF_w11.out.below hb
  have HM_w12 : Hid (Rw w4.heap.size w5.heap.size w12 vm L2) := HM_w11.out.below hb
  have HB1_w12 : Hid (Bk w12 w8.heap.size #[.int .i64 T.x, .int .i64 T.y, .int .i64 T.w, .int .i64 T.h] 35) := HB1_w11.out.below hb
  have HG_w12 : Hid (Rw w9.heap.size w10.heap.size w12 vg L1) := HG_w11.out.below hb
  have HF2_w12 : Hid (Rw w10.heap.size w11.heap.size w12 vf2 L1) := HF2_w11.out.below hb
  have HM2_w12 : Hid (Rw w11.heap.size w12.heap.size w12 vm2 L2) := rw_of ho
  clear hb HL_w11 HP_w11 HQ_w11 HX_w11 HF_w11 HM_w11 HB1_w11 HG_w11 HF2_w11
  clear ho y0 y1
  go_wp2_with fail
  refine (DA.out _ HL_w12.out).mono ?_
  rintro e w13 ⟨rfl, hb⟩
  have S13 : Hid (w12.heap.size ≤ w13.heap.size) := hb.size
  have HL_w13 : Hid (Below w.heap.size w w13) := bel_tr HL_w12.out hb
  have HP_w13 : Hid (Bk w13 w.heap.size #[.int .i64 px, .int .i64 py] 31) := HP_w12.out.below hb
  have HQ_w13 : Hid (Bk w13 (w.heap.size + 1) #[.int .i64 qx, .int .i64 qy] 31) := HQ_w12.out.below hb
  have HX_w13 : Hid (Lent w2.heap.size w3.heap.size w13 vx a) := HX_w12.out.below hb
  have HF_w13 : Hid (Rw w3.heap.size w4.heap.size w13 vf L1) := HF_w12.out.below hb
  have HM_w13 : Hid (Rw w4.heap.size w5.heap.size w13 vm L2) := HM_w12.out.below hb
  have HB1_w13 : Hid (Bk w13 w8.heap.size #[.int .i64 T.x, .int .i64 T.y, .int .i64 T.w, .int .i64 T.h] 35) := HB1_w12.out.below hb
  have HG_w13 : Hid (Rw w9.heap.size w10.heap.size w13 vg L1) := HG_w12.out.below hb
  have HF2_w13 : Hid (Rw w10.heap.size w11.heap.size w13 vf2 L1) := HF2_w12.out.below hb
  have HM2_w13 : Hid (Rw w11.heap.size w12.heap.size w13 vm2 L2) := HM2_w12.out.below hb
  clear hb HL_w12 HP_w12 HQ_w12 HX_w12 HF_w12 HM_w12 HB1_w12 HG_w12 HF2_w12 HM2_w12
  obtain ⟨y0, y1⟩ := HP_w13.out.at2
  go_wp2_with fail
  refine (DH.out _ HL_w13.out).mono ?_
  rintro e w14 ⟨rfl, hb⟩
  have S14 : Hid (w13.heap.size ≤ w14.heap.size) := hb.size
  have HL_w14 : Hid (Below w.heap.size w w14) := bel_tr HL_w13.out hb
  have HP_w14 : Hid (Bk w14 w.heap.size #[.int .i64 px, .int .i64 py] 31) := HP_w13.out.below hb
  have HQ_w14 : Hid (Bk w14 (w.heap.size + 1) #[.int .i64 qx, .int .i64 qy] 31) := HQ_w13.out.below hb
  have HX_w14 : Hid (Lent w2.heap.size w3.heap.size w14 vx a) := HX_w13.out.below hb
  have HF_w14 : Hid (Rw w3.heap.size w4.heap.size w14 vf L1) := HF_w13.out.below hb
  have HM_w14 : Hid (Rw w4.heap.size w5.heap.size w14 vm L2) := HM_w13.out.below hb
  have HB1_w14 : Hid (Bk w14 w8.heap.size #[.int .i64 T.x, .int .i64 T.y, .int .i64 T.w, .int .i64 T.h] 35) := HB1_w13.out.below hb
  have HG_w14 : Hid (Rw w9.heap.size w10.heap.size w14 vg L1) := HG_w13.out.below hb
  have HF2_w14 : Hid (Rw w10.heap.size w11.heap.size w14 vf2 L1) := HF2_w13.out.below hb
  have HM2_w14 : Hid (Rw w11.heap.size w12.heap.size w14 vm2 L2) := HM2_w13.out.below hb
  clear hb HL_w13 HP_w13 HQ_w13 HX_w13 HF_w13 HM_w13 HB1_w13 HG_w13 HF2_w13 HM2_w13
  clear y0 y1
  go_wp2_with fail
  refine (DB.out _ HL_w14.out).mono ?_
  rintro e w15 ⟨rfl, hb⟩
  have S15 : Hid (w14.heap.size ≤ w15.heap.size) := hb.size
  have HL_w15 : Hid (Below w.heap.size w w15) := bel_tr HL_w14.out hb
  have HP_w15 : Hid (Bk w15 w.heap.size #[.int .i64 px, .int .i64 py] 31) := HP_w14.out.below hb
  have HQ_w15 : Hid (Bk w15 (w.heap.size + 1) #[.int .i64 qx, .int .i64 qy] 31) := HQ_w14.out.below hb
  have HX_w15 : Hid (Lent w2.heap.size w3.heap.size w15 vx a) := HX_w14.out.below hb
  have HF_w15 : Hid (Rw w3.heap.size w4.heap.size w15 vf L1) := HF_w14.out.below hb
  have HM_w15 : Hid (Rw w4.heap.size w5.heap.size w15 vm L2) := HM_w14.out.below hb
  have HB1_w15 : Hid (Bk w15 w8.heap.size #[.int .i64 T.x, .int .i64 T.y, .int .i64 T.w, .int .i64 T.h] 35) := HB1_w14.out.below hb
  have HG_w15 : Hid (Rw w9.heap.size w10.heap.size w15 vg L1) := HG_w14.out.below hb
  have HF2_w15 : Hid (Rw w10.heap.size w11.heap.size w15 vf2 L1) := HF2_w14.out.below hb
  have HM2_w15 : Hid (Rw w11.heap.size w12.heap.size w15 vm2 L2) := HM2_w14.out.below hb
  clear hb HL_w14 HP_w14 HQ_w14 HX_w14 HF_w14 HM_w14 HB1_w14 HG_w14 HF2_w14 HM2_w14
  obtain ⟨w16, ew16⟩ : ∃ W, W = w15.alloc (.cells #[.int .i64 T.x, .int .i64 T.y, .int .i64 T.w, .int .i64 T.h] 35) := ⟨_, rfl⟩
  have hb : Below w15.heap.size w15 w16 := by rw [ew16]; exact (Below.refl _ _).alloc (Nat.le_refl _) _
  have S16 : Hid (w15.heap.size ≤ w16.heap.size) := hb.size
  have HL_w16 : Hid (Below w.heap.size w w16) := bel_tr HL_w15.out hb
  have HP_w16 : Hid (Bk w16 w.heap.size #[.int .i64 px, .int .i64 py] 31) := HP_w15.out.below hb
  have HQ_w16 : Hid (Bk w16 (w.heap.size + 1) #[.int .i64 qx, .int .i64 qy] 31) := HQ_w15.out.below hb
  have HX_w16 : Hid (Lent w2.heap.size w3.heap.size w16 vx a) := HX_w15.out.below hb
  have HF_w16 : Hid (Rw w3.heap.size w4.heap.size w16 vf L1) := HF_w15.out.below hb
  have HM_w16 : Hid (Rw w4.heap.size w5.heap.size w16 vm L2) := HM_w15.out.below hb
  have HB1_w16 : Hid (Bk w16 w8.heap.size #[.int .i64 T.x, .int .i64 T.y, .int .i64 T.w, .int .i64 T.h] 35) := HB1_w15.out.below hb
  have HG_w16 : Hid (Rw w9.heap.size w10.heap.size w16 vg L1) := HG_w15.out.below hb
  have HF2_w16 : Hid (Rw w10.heap.size w11.heap.size w16 vf2 L1) := HF2_w15.out.below hb
  have HM2_w16 : Hid (Rw w11.heap.size w12.heap.size w16 vm2 L2) := HM2_w15.out.below hb
  have HB2_w16 : Hid (Bk w16 w15.heap.size #[.int .i64 T.x, .int .i64 T.y, .int .i64 T.w, .int .i64 T.h] 35) := by rw [ew16]; exact Bk.new _ _ _
  clear hb HL_w15 HP_w15 HQ_w15 HX_w15 HF_w15 HM_w15 HB1_w15 HG_w15 HF2_w15 HM2_w15
  go_wp2_with fail
  rw [← ew16]; clear ew16
  refine (HE.out _ _ _ _ _ _ _ _ HF_w16.out HF2_w16.out HN.out.1).mono ?_
  rintro e w17 ⟨rfl, hb⟩
  have S17 : Hid (w16.heap.size ≤ w17.heap.size) := hb.size
  have HL_w17 : Hid (Below w.heap.size w w17) := bel_tr HL_w16.out hb
  have HP_w17 : Hid (Bk w17 w.heap.size #[.int .i64 px, .int .i64 py] 31) := HP_w16.out.below hb
  have HQ_w17 : Hid (Bk w17 (w.heap.size + 1) #[.int .i64 qx, .int .i64 qy] 31) := HQ_w16.out.below hb
  have HX_w17 : Hid (Lent w2.heap.size w3.heap.size w17 vx a) := HX_w16.out.below hb
  have HF_w17 : Hid (Rw w3.heap.size w4.heap.size w17 vf L1) := HF_w16.out.below hb
  have HM_w17 : Hid (Rw w4.heap.size w5.heap.size w17 vm L2) := HM_w16.out.below hb
  have HB1_w17 : Hid (Bk w17 w8.heap.size #[.int .i64 T.x, .int .i64 T.y, .int .i64 T.w, .int .i64 T.h] 35) := HB1_w16.out.below hb
  have HG_w17 : Hid (Rw w9.heap.size w10.heap.size w17 vg L1) := HG_w16.out.below hb
  have HF2_w17 : Hid (Rw w10.heap.size w11.heap.size w17 vf2 L1) := HF2_w16.out.below hb
  have HM2_w17 : Hid (Rw w11.heap.size w12.heap.size w17 vm2 L2) := HM2_w16.out.below hb
  have HB2_w17 : Hid (Bk w17 w15.heap.size #[.int .i64 T.x, .int .i64 T.y, .int .i64 T.w, .int .i64 T.h] 35) := HB2_w16.out.below hb
  clear hb HL_w16 HP_w16 HQ_w16 HX_w16 HF_w16 HM_w16 HB1_w16 HG_w16 HF2_w16 HM2_w16 HB2_w16
  go_wp2_with fail
  refine (HE.out _ _ _ _ _ _ _ _ HM_w17.out HM2_w17.out HN.out.2).mono ?_
  rintro e w18 ⟨rfl, hb⟩
  have S18 : Hid (w17.heap.size ≤ w18.heap.size) := hb.size
  have HL_w18 : Hid (Below w.heap.size w w18) := bel_tr HL_w17.out hb
  have HP_w18 : Hid (Bk w18 w.heap.size #[.int .i64 px, .int .i64 py] 31) := HP_w17.out.below hb
  have HQ_w18 : Hid (Bk w18 (w.heap.size + 1) #[.int .i64 qx, .int .i64 qy] 31) := HQ_w17.out.below hb
  have HX_w18 : Hid (Lent w2.heap.size w3.heap.size w18 vx a) := HX_w17.out.below hb
  have HF_w18 : Hid (Rw w3.heap.size w4.heap.size w18 vf L1) := HF_w17.out.below hb
  have HM_w18 : Hid (Rw w4.heap.size w5.heap.size w18 vm L2) := HM_w17.out.below hb
  have HB1_w18 : Hid (Bk w18 w8.heap.size #[.int .i64 T.x, .int .i64 T.y, .int .i64 T.w, .int .i64 T.h] 35) := HB1_w17.out.below hb
  have HG_w18 : Hid (Rw w9.heap.size w10.heap.size w18 vg L1) := HG_w17.out.below hb
  have HF2_w18 : Hid (Rw w10.heap.size w11.heap.size w18 vf2 L1) := HF2_w17.out.below hb
  have HM2_w18 : Hid (Rw w11.heap.size w12.heap.size w18 vm2 L2) := HM2_w17.out.below hb
  have HB2_w18 : Hid (Bk w18 w15.heap.size #[.int .i64 T.x, .int .i64 T.y, .int .i64 T.w, .int .i64 T.h] 35) := HB2_w17.out.below hb
  clear hb HL_w17 HP_w17 HQ_w17 HX_w17 HF_w17 HM_w17 HB1_w17 HG_w17 HF2_w17 HM2_w17 HB2_w17
  obtain ⟨y0, y1, y2, y3⟩ := HB1_w18.out.at4
  obtain ⟨z0, z1, z2, z3⟩ := HB2_w18.out.at4
  go_wp2_with fail
  refine (HC.out _ _ _ _ HX_w18.out).mono ?_
  rintro e w19 ⟨rfl, hb⟩
  have S19 : Hid (w18.heap.size ≤ w19.heap.size) := hb.size
  have HL_w19 : Hid (Below w.heap.size w w19) := bel_tr HL_w18.out hb
  have HP_w19 : Hid (Bk w19 w.heap.size #[.int .i64 px, .int .i64 py] 31) := HP_w18.out.below hb
  have HQ_w19 : Hid (Bk w19 (w.heap.size + 1) #[.int .i64 qx, .int .i64 qy] 31) := HQ_w18.out.below hb
  have HX_w19 : Hid (Lent w2.heap.size w3.heap.size w19 vx a) := HX_w18.out.below hb
  have HF_w19 : Hid (Rw w3.heap.size w4.heap.size w19 vf L1) := HF_w18.out.below hb
  have HM_w19 : Hid (Rw w4.heap.size w5.heap.size w19 vm L2) := HM_w18.out.below hb
  have HB1_w19 : Hid (Bk w19 w8.heap.size #[.int .i64 T.x, .int .i64 T.y, .int .i64 T.w, .int .i64 T.h] 35) := HB1_w18.out.below hb
  have HG_w19 : Hid (Rw w9.heap.size w10.heap.size w19 vg L1) := HG_w18.out.below hb
  have HF2_w19 : Hid (Rw w10.heap.size w11.heap.size w19 vf2 L1) := HF2_w18.out.below hb
  have HM2_w19 : Hid (Rw w11.heap.size w12.heap.size w19 vm2 L2) := HM2_w18.out.below hb
  have HB2_w19 : Hid (Bk w19 w15.heap.size #[.int .i64 T.x, .int .i64 T.y, .int .i64 T.w, .int .i64 T.h] 35) := HB2_w18.out.below hb
  clear hb HL_w18 HP_w18 HQ_w18 HX_w18 HF_w18 HM_w18 HB1_w18 HG_w18 HF2_w18 HM2_w18 HB2_w18
  clear y0 y1 y2 y3 z0 z1 z2 z3
  go_wp2_with fail
  refine (DC.out _ HL_w19.out).mono ?_
  rintro e w20 ⟨rfl, hb⟩
  have S20 : Hid (w19.heap.size ≤ w20.heap.size) := hb.size
  have HL_w20 : Hid (Below w.heap.size w w20) := bel_tr HL_w19.out hb
  have HP_w20 : Hid (Bk w20 w.heap.size #[.int .i64 px, .int .i64 py] 31) := HP_w19.out.below hb
  have HQ_w20 : Hid (Bk w20 (w.heap.size + 1) #[.int .i64 qx, .int .i64 qy] 31) := HQ_w19.out.below hb
  have HX_w20 : Hid (Lent w2.heap.size w3.heap.size w20 vx a) := HX_w19.out.below hb
  have HF_w20 : Hid (Rw w3.heap.size w4.heap.size w20 vf L1) := HF_w19.out.below hb
  have HM_w20 : Hid (Rw w4.heap.size w5.heap.size w20 vm L2) := HM_w19.out.below hb
  have HB1_w20 : Hid (Bk w20 w8.heap.size #[.int .i64 T.x, .int .i64 T.y, .int .i64 T.w, .int .i64 T.h] 35) := HB1_w19.out.below hb
  have HG_w20 : Hid (Rw w9.heap.size w10.heap.size w20 vg L1) := HG_w19.out.below hb
  have HF2_w20 : Hid (Rw w10.heap.size w11.heap.size w20 vf2 L1) := HF2_w19.out.below hb
  have HM2_w20 : Hid (Rw w11.heap.size w12.heap.size w20 vm2 L2) := HM2_w19.out.below hb
  have HB2_w20 : Hid (Bk w20 w15.heap.size #[.int .i64 T.x, .int .i64 T.y, .int .i64 T.w, .int .i64 T.h] 35) := HB2_w19.out.below hb
  clear hb HL_w19 HP_w19 HQ_w19 HX_w19 HF_w19 HM_w19 HB1_w19 HG_w19 HF2_w19 HM2_w19 HB2_w19
  go_wp2_with fail
  refine (HC2.out _ _ _ _ HF2_w20.out).mono ?_
  rintro e w21 ⟨rfl, hb⟩
  have S21 : Hid (w20.heap.size ≤ w21.heap.size) := hb.size
  have HL_w21 : Hid (Below w.heap.size w w21) := bel_tr HL_w20.out hb
  have HP_w21 : Hid (Bk w21 w.heap.size #[.int .i64 px, .int .i64 py] 31) := HP_w20.out.below hb
  have HQ_w21 : Hid (Bk w21 (w.heap.size + 1) #[.int .i64 qx, .int .i64 qy] 31) := HQ_w20.out.below hb
  have HX_w21 : Hid (Lent w2.heap.size w3.heap.size w21 vx a) := HX_w20.out.below hb
  have HF_w21 : Hid (Rw w3.heap.size w4.heap.size w21 vf L1) := HF_w20.out.below hb
  have HM_w21 : Hid (Rw w4.heap.size w5.heap.size w21 vm L2) := HM_w20.out.below hb
  have HB1_w21 : Hid (Bk w21 w8.heap.size #[.int .i64 T.x, .int .i64 T.y, .int .i64 T.w, .int .i64 T.h] 35) := HB1_w20.out.below hb
  have HG_w21 : Hid (Rw w9.heap.size w10.heap.size w21 vg L1) := HG_w20.out.below hb
  have HF2_w21 : Hid (Rw w10.heap.size w11.heap.size w21 vf2 L1) := HF2_w20.out.below hb
  have HM2_w21 : Hid (Rw w11.heap.size w12.heap.size w21 vm2 L2) := HM2_w20.out.below hb
  have HB2_w21 : Hid (Bk w21 w15.heap.size #[.int .i64 T.x, .int .i64 T.y, .int .i64 T.w, .int .i64 T.h] 35) := HB2_w20.out.below hb
  clear hb HL_w20 HP_w20 HQ_w20 HX_w20 HF_w20 HM_w20 HB1_w20 HG_w20 HF2_w20 HM2_w20 HB2_w20
  go_wp2_with fail
  refine (DC2.out _ _ _ _ HF2_w21.out).mono ?_
  rintro e w22 ⟨rfl, hb⟩
  have S22 : Hid (w21.heap.size ≤ w22.heap.size) := hb.size
  have HL_w22 : Hid (Below w.heap.size w w22) := bel_tr HL_w21.out hb
  have HP_w22 : Hid (Bk w22 w.heap.size #[.int .i64 px, .int .i64 py] 31) := HP_w21.out.below hb
  have HQ_w22 : Hid (Bk w22 (w.heap.size + 1) #[.int .i64 qx, .int .i64 qy] 31) := HQ_w21.out.below hb
  have HX_w22 : Hid (Lent w2.heap.size w3.heap.size w22 vx a) := HX_w21.out.below hb
  have HF_w22 : Hid (Rw w3.heap.size w4.heap.size w22 vf L1) := HF_w21.out.below hb
  have HM_w22 : Hid (Rw w4.heap.size w5.heap.size w22 vm L2) := HM_w21.out.below hb
  have HB1_w22 : Hid (Bk w22 w8.heap.size #[.int .i64 T.x, .int .i64 T.y, .int .i64 T.w, .int .i64 T.h] 35) := HB1_w21.out.below hb
  have HG_w22 : Hid (Rw w9.heap.size w10.heap.size w22 vg L1) := HG_w21.out.below hb
  have HF2_w22 : Hid (Rw w10.heap.size w11.heap.size w22 vf2 L1) := HF2_w21.out.below hb
  have HM2_w22 : Hid (Rw w11.heap.size w12.heap.size w22 vm2 L2) := HM2_w21.out.below hb
  have HB2_w22 : Hid (Bk w22 w15.heap.size #[.int .i64 T.x, .int .i64 T.y, .int .i64 T.w, .int .i64 T.h] 35) := HB2_w21.out.below hb
  clear hb HL_w21 HP_w21 HQ_w21 HX_w21 HF_w21 HM_w21 HB1_w21 HG_w21 HF2_w21 HM2_w21 HB2_w21
  clear HB1_w22 HB2_w22 HP_w22 HQ_w22
  go_wp2_with fail
  refine (HO.out _ _ _ _ _ HF_w22.out (by have := S0.out; have := S1.out; have := S2.out; have := S3.out; have := S4.out; have := S5.out; have := S6.out; have := S7.out; have := S8.out; have := S9.out; have := S10.out; have := S11.out; have := S12.out; have := S13.out; have := S14.out; have := S15.out; have := S16.out; have := S17.out; have := S18.out; have := S19.out; have := S20.out; have := S21.out; have := S22.out; omega) HN.out.1).mono ?_
  rintro e w23 ⟨rfl, hb⟩
  have S23 : Hid (w22.heap.size ≤ w23.heap.size) := hb.size
  have HL_w23 : Hid (Below w.heap.size w w23) := grow_below HL_w22.out HF_w22.out (by have := S0.out; have := S1.out; have := S2.out; have := S3.out; have := S4.out; have := S5.out; have := S6.out; have := S7.out; have := S8.out; have := S9.out; have := S10.out; have := S11.out; have := S12.out; have := S13.out; have := S14.out; have := S15.out; have := S16.out; have := S17.out; have := S18.out; have := S19.out; have := S20.out; have := S21.out; have := S22.out; omega) (HL_w22.out.size) hb
  have HX_w23 : Hid (Lent w2.heap.size w3.heap.size w23 vx a) := HX_w22.out.kept HF_w22.out (by have := S0.out; have := S1.out; have := S2.out; have := S3.out; have := S4.out; have := S5.out; have := S6.out; have := S7.out; have := S8.out; have := S9.out; have := S10.out; have := S11.out; have := S12.out; have := S13.out; have := S14.out; have := S15.out; have := S16.out; have := S17.out; have := S18.out; have := S19.out; have := S20.out; have := S21.out; have := S22.out; omega) hb
  have HM_w23 : Hid (Rw w4.heap.size w5.heap.size w23 vm L2) := HM_w22.out.kept HF_w22.out (by have := S0.out; have := S1.out; have := S2.out; have := S3.out; have := S4.out; have := S5.out; have := S6.out; have := S7.out; have := S8.out; have := S9.out; have := S10.out; have := S11.out; have := S12.out; have := S13.out; have := S14.out; have := S15.out; have := S16.out; have := S17.out; have := S18.out; have := S19.out; have := S20.out; have := S21.out; have := S22.out; omega) hb
  have HG_w23 : Hid (Rw w9.heap.size w10.heap.size w23 vg L1) := HG_w22.out.kept HF_w22.out (by have := S0.out; have := S1.out; have := S2.out; have := S3.out; have := S4.out; have := S5.out; have := S6.out; have := S7.out; have := S8.out; have := S9.out; have := S10.out; have := S11.out; have := S12.out; have := S13.out; have := S14.out; have := S15.out; have := S16.out; have := S17.out; have := S18.out; have := S19.out; have := S20.out; have := S21.out; have := S22.out; omega) hb
  have HF2_w23 : Hid (Rw w10.heap.size w11.heap.size w23 vf2 L1) := HF2_w22.out.kept HF_w22.out (by have := S0.out; have := S1.out; have := S2.out; have := S3.out; have := S4.out; have := S5.out; have := S6.out; have := S7.out; have := S8.out; have := S9.out; have := S10.out; have := S11.out; have := S12.out; have := S13.out; have := S14.out; have := S15.out; have := S16.out; have := S17.out; have := S18.out; have := S19.out; have := S20.out; have := S21.out; have := S22.out; omega) hb
  have HM2_w23 : Hid (Rw w11.heap.size w12.heap.size w23 vm2 L2) := HM2_w22.out.kept HF_w22.out (by have := S0.out; have := S1.out; have := S2.out; have := S3.out; have := S4.out; have := S5.out; have := S6.out; have := S7.out; have := S8.out; have := S9.out; have := S10.out; have := S11.out; have := S12.out; have := S13.out; have := S14.out; have := S15.out; have := S16.out; have := S17.out; have := S18.out; have := S19.out; have := S20.out; have := S21.out; have := S22.out; omega) hb
  clear hb HL_w22 HX_w22 HF_w22 HM_w22 HG_w22 HF2_w22 HM2_w22
  go_wp2_with fail
  refine (HO.out _ _ _ _ _ HM_w23.out (by have := S0.out; have := S1.out; have := S2.out; have := S3.out; have := S4.out; have := S5.out; have := S6.out; have := S7.out; have := S8.out; have := S9.out; have := S10.out; have := S11.out; have := S12.out; have := S13.out; have := S14.out; have := S15.out; have := S16.out; have := S17.out; have := S18.out; have := S19.out; have := S20.out; have := S21.out; have := S22.out; have := S23.out; omega) HN.out.2).mono ?_
  rintro e w24 ⟨rfl, hb⟩
  have S24 : Hid (w23.heap.size ≤ w24.heap.size) := hb.size
  have HL_w24 : Hid (Below w.heap.size w w24) := grow_below HL_w23.out HM_w23.out (by have := S0.out; have := S1.out; have := S2.out; have := S3.out; have := S4.out; have := S5.out; have := S6.out; have := S7.out; have := S8.out; have := S9.out; have := S10.out; have := S11.out; have := S12.out; have := S13.out; have := S14.out; have := S15.out; have := S16.out; have := S17.out; have := S18.out; have := S19.out; have := S20.out; have := S21.out; have := S22.out; have := S23.out; omega) (HL_w23.out.size) hb
  have HX_w24 : Hid (Lent w2.heap.size w3.heap.size w24 vx a) := HX_w23.out.kept HM_w23.out (by have := S0.out; have := S1.out; have := S2.out; have := S3.out; have := S4.out; have := S5.out; have := S6.out; have := S7.out; have := S8.out; have := S9.out; have := S10.out; have := S11.out; have := S12.out; have := S13.out; have := S14.out; have := S15.out; have := S16.out; have := S17.out; have := S18.out; have := S19.out; have := S20.out; have := S21.out; have := S22.out; have := S23.out; omega) hb
  have HG_w24 : Hid (Rw w9.heap.size w10.heap.size w24 vg L1) := HG_w23.out.kept HM_w23.out (by have := S0.out; have := S1.out; have := S2.out; have := S3.out; have := S4.out; have := S5.out; have := S6.out; have := S7.out; have := S8.out; have := S9.out; have := S10.out; have := S11.out; have := S12.out; have := S13.out; have := S14.out; have := S15.out; have := S16.out; have := S17.out; have := S18.out; have := S19.out; have := S20.out; have := S21.out; have := S22.out; have := S23.out; omega) hb
  have HF2_w24 : Hid (Rw w10.heap.size w11.heap.size w24 vf2 L1) := HF2_w23.out.kept HM_w23.out (by have := S0.out; have := S1.out; have := S2.out; have := S3.out; have := S4.out; have := S5.out; have := S6.out; have := S7.out; have := S8.out; have := S9.out; have := S10.out; have := S11.out; have := S12.out; have := S13.out; have := S14.out; have := S15.out; have := S16.out; have := S17.out; have := S18.out; have := S19.out; have := S20.out; have := S21.out; have := S22.out; have := S23.out; omega) hb
  have HM2_w24 : Hid (Rw w11.heap.size w12.heap.size w24 vm2 L2) := HM2_w23.out.kept HM_w23.out (by have := S0.out; have := S1.out; have := S2.out; have := S3.out; have := S4.out; have := S5.out; have := S6.out; have := S7.out; have := S8.out; have := S9.out; have := S10.out; have := S11.out; have := S12.out; have := S13.out; have := S14.out; have := S15.out; have := S16.out; have := S17.out; have := S18.out; have := S19.out; have := S20.out; have := S21.out; have := S22.out; have := S23.out; omega) hb
  clear hb HL_w23 HX_w23 HM_w23 HG_w23 HF2_w23 HM2_w23
  go_wp2_with fail
  refine (HE.out _ _ _ _ _ _ _ _ HG_w24.out HF2_w24.out HN.out.1).mono ?_
  rintro e w25 ⟨rfl, hb⟩
  have S25 : Hid (w24.heap.size ≤ w25.heap.size) := hb.size
  have HL_w25 : Hid (Below w.heap.size w w25) := bel_tr HL_w24.out hb
  have HX_w25 : Hid (Lent w2.heap.size w3.heap.size w25 vx a) := HX_w24.out.below hb
  have HG_w25 : Hid (Rw w9.heap.size w10.heap.size w25 vg L1) := HG_w24.out.below hb
  have HF2_w25 : Hid (Rw w10.heap.size w11.heap.size w25 vf2 L1) := HF2_w24.out.below hb
  have HM2_w25 : Hid (Rw w11.heap.size w12.heap.size w25 vm2 L2) := HM2_w24.out.below hb
  clear hb HL_w24 HX_w24 HG_w24 HF2_w24 HM2_w24
  go_wp2_with fail
  refine (HKa.out _ _ _ _ HX_w25.out HL_w25.out).mono ?_
  rintro e w26 ⟨rfl, hb⟩
  have S26 : Hid (w25.heap.size ≤ w26.heap.size) := hb.size
  have HL_w26 : Hid (Below w.heap.size w w26) := bel_tr HL_w25.out hb
  have HX_w26 : Hid (Lent w2.heap.size w3.heap.size w26 vx a) := HX_w25.out.below hb
  have HG_w26 : Hid (Rw w9.heap.size w10.heap.size w26 vg L1) := HG_w25.out.below hb
  have HF2_w26 : Hid (Rw w10.heap.size w11.heap.size w26 vf2 L1) := HF2_w25.out.below hb
  have HM2_w26 : Hid (Rw w11.heap.size w12.heap.size w26 vm2 L2) := HM2_w25.out.below hb
  clear hb HL_w25 HX_w25 HG_w25 HF2_w25 HM2_w25
  go_wp2
  go_ret
  exact ⟨rfl, HL_w26.out⟩

end Go.Proofs.Ytagkbpceiedikaa
