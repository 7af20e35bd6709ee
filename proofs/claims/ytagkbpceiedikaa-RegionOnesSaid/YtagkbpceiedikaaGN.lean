/-
  Contracts of package region: Check, Same, Area.
-/
import Derived.Test.YtagkbpceiedikaaGM
namespace Go.Proofs.Ytagkbpceiedikaa
open Go.RowKit Go.Sort Go.Shelf

theorem lsr_own {w : World} {base : Nat} {v : Value} {l : List Rc} (h : w.ownsRow base 35 4 v l.length (flat l)) : LsR w v l := by
  obtain ⟨oa, cap, rfl, hc, hg⟩ := row_val h
  refine ⟨oa, cap, rfl, hc, fun hp => ?_⟩
  obtain ⟨g, rfl, _, hg2⟩ := hg hp
  refine ⟨g, 0, rfl, hg2, fun i hi => ?_⟩
  obtain ⟨f0, f1, f2, f3⟩ := flat_at l i hi
  rw [Nat.zero_add]
  exact ⟨by rw [own_cell h _ (by omega), f0], by rw [own_cell h _ (by omega), f1], by rw [own_cell h _ (by omega), f2], by rw [own_cell h _ (by omega), f3]⟩
/-- What Check tells. -/
def chkE (l : List Rc) : Int := if lisE l = 0 then (if sameB l (formF false l []) = true then 0 else 2) else lisE l

set_option maxHeartbeats 2000000 in
theorem checkL_any (a : List Rc) (va : Value) (w : World) (ha : LsR w va a) (ia : I64s a) :
    Calls Try.prog 13 #[va] w fun e w' => e = .returned (.int .i64 (chkE a)) ∧ Below w.heap.size w w' := by
  have H1 : Hid (Calls Try.prog 41 #[va] w fun e w' => e = .returned (.int .i64 (lisE a)) ∧ Below w.heap.size w w') := listed_any a va w ha ia
  unfold chkE
  by_cases h0 : lisE a = 0
  · have hal := (lisE_zero h0).1
    have H2 : Hid (∀ W, Below w.heap.size w W → Calls Try.prog 43 #[va, (.slice none 0 0), .func (.func 44) #[] #[]] W fun e w' => ∃ u, e = .returned u ∧ w'.ownsRow W.heap.size 35 4 u (formF false a []).length (flat (formF false a [])) ∧ Below W.heap.size W w') := fun W h => form_any false a [] va (.slice none 0 0) W (ha.below h) (lsr_nil W) ia (fun r hr => by cases hr) (by omega) (by simp)
    have H3 : Hid (∀ u W, Below w.heap.size w W → LsR W u (formF false a []) → Calls Try.prog 47 #[va, u] W fun e w' => e = .returned (.bool (sameB a (formF false a []))) ∧ Below W.heap.size W w') := fun u W h hu => equal_any a _ va u W (ha.below h) hu (by omega)
    rw [h0] at H1
    rw [if_pos h0]
    generalize sameB a (formF false a []) = sb at *
    generalize formF false a [] = F at *
    clear ha ia h0
    cases sb
    all_goals
      go_enter Try.func13, Try.ntmps13
      go_wp2_with fail
      refine H1.out.mono ?_
      rintro e w1 ⟨rfl, hb1⟩
      have HB : Hid (Below w.heap.size w w1) := hb1
      clear hb1
      go_wp2_with fail
      refine (H2.out _ HB.out).mono ?_
      rintro e w2 ⟨u, rfl, hu, hb2⟩
      have HU : Hid (LsR w2 u F ∧ Below w.heap.size w w2) := ⟨lsr_own hu, HB.out.trans (hb2.mono HB.out.size)⟩
      clear hb2 hu
      go_wp2_with fail
      refine (H3.out u _ HU.out.2 HU.out.1).mono ?_
      rintro e w3 ⟨rfl, hb3⟩
      have HZ : Hid (Below w.heap.size w w3) := HU.out.2.trans (hb3.mono HU.out.2.size)
      clear hb3
      go_wp2
      go_ret
      exact ⟨rfl, HZ.out⟩
  · rw [if_neg h0]
    generalize lisE a = ea at *
    have h1 : (ea != 0) = true := by simp [h0]
    clear ha ia h0
    go_enter Try.func13, Try.ntmps13
    go_wp2_with fail
    refine H1.out.mono ?_
    rintro e w1 ⟨rfl, hb1⟩
    have HB : Hid (Below w.heap.size w w1) := hb1
    clear hb1
    go_wp2
    go_ret
    exact ⟨rfl, HB.out⟩

/-- What Same tells. -/
def samR (a b : List Rc) : Bool := decide (twoE a b = 0) && sameB (formF false a []) (formF false b [])

set_option maxHeartbeats 2000000 in
theorem sameS_any (a b : List Rc) (va vb : Value) (w : World) (ha : LsR w va a) (hb : LsR w vb b) (ia : I64s a) (ib : I64s b) :
    Calls Try.prog 16 #[va, vb] w fun e w' => e = .returned (.tuple #[.bool (samR a b), .int .i64 (twoE a b)]) ∧ Below w.heap.size w w' := by
  have H1 : Hid (Calls Try.prog 45 #[va, vb] w fun e w' => e = .returned (.int .i64 (twoE a b)) ∧ Below w.heap.size w w') := both_any a b va vb w ha hb ia ib
  unfold samR
  by_cases h0 : twoE a b = 0
  · have hal := (lisE_zero (twoE_zero h0).1).1
    have hbl := (lisE_zero (twoE_zero h0).2).1
    have H2 : Hid (∀ W, Below w.heap.size w W → Calls Try.prog 43 #[va, (.slice none 0 0), .func (.func 44) #[] #[]] W fun e w' => ∃ u, e = .returned u ∧ w'.ownsRow W.heap.size 35 4 u (formF false a []).length (flat (formF false a [])) ∧ Below W.heap.size W w') := fun W h => form_any false a [] va (.slice none 0 0) W (ha.below h) (lsr_nil W) ia (fun r hr => by cases hr) (by omega) (by simp)
    have H4 : Hid (∀ W, Below w.heap.size w W → Calls Try.prog 43 #[vb, (.slice none 0 0), .func (.func 44) #[] #[]] W fun e w' => ∃ u, e = .returned u ∧ w'.ownsRow W.heap.size 35 4 u (formF false b []).length (flat (formF false b [])) ∧ Below W.heap.size W w') := fun W h => form_any false b [] vb (.slice none 0 0) W (hb.below h) (lsr_nil W) ib (fun r hr => by cases hr) (by omega) (by simp)
    have H3 : Hid (∀ v u W, LsR W v (formF false a []) → LsR W u (formF false b []) → Calls Try.prog 47 #[v, u] W fun e w' => e = .returned (.bool (sameB (formF false a []) (formF false b []))) ∧ Below W.heap.size W w') := fun v u W h hu => equal_any _ _ v u W h hu (by have := formF_len false a [] (by omega) (by simp); omega)
    rw [h0] at H1 ⊢
    rw [decide_eq_true rfl, Bool.true_and]
    generalize sameB (formF false a []) (formF false b []) = sb at *
    generalize formF false a [] = F at *
    generalize formF false b [] = G at *
    clear ha ia hb ib h0
    go_enter Try.func16, Try.ntmps16
    go_wp2_with fail
    refine H1.out.mono ?_
    rintro e w1 ⟨rfl, hb1⟩
    have HB : Hid (Below w.heap.size w w1) := hb1
    clear hb1
    go_wp2_with fail
    refine (H2.out _ HB.out).mono ?_
    rintro e w2 ⟨u, rfl, hu, hb2⟩
    have HU : Hid (LsR w2 u F ∧ Below w.heap.size w w2) := ⟨lsr_own hu, HB.out.trans (hb2.mono HB.out.size)⟩
    clear hb2 hu
    go_wp2_with fail
    refine (H4.out _ HU.out.2).mono ?_
    rintro e w3 ⟨z, rfl, hz, hb3⟩
    have HZ : Hid (LsR w3 z G ∧ LsR w3 u F ∧ Below w.heap.size w w3) := ⟨lsr_own hz, HU.out.1.below hb3, HU.out.2.trans (hb3.mono HU.out.2.size)⟩
    clear hb3 hz
    go_wp2_with fail
    refine (H3.out u z _ HZ.out.2.1 HZ.out.1).mono ?_
    rintro e w4 ⟨rfl, hb4⟩
    have HY : Hid (Below w.heap.size w w4) := HZ.out.2.2.trans (hb4.mono HZ.out.2.2.size)
    clear hb4
    go_wp2
    go_ret2
    exact ⟨rfl, HY.out⟩
  · rw [decide_eq_false h0, Bool.false_and]
    generalize twoE a b = ea at *
    have h1 : (ea != 0) = true := by simp [h0]
    clear ha ia hb ib h0
    go_enter Try.func16, Try.ntmps16
    go_wp2_with fail
    refine H1.out.mono ?_
    rintro e w1 ⟨rfl, hb1⟩
    have HB : Hid (Below w.heap.size w w1) := hb1
    clear hb1
    go_wp2
    go_ret2
    exact ⟨rfl, HB.out⟩

/-- Places of rectangles, added up. -/
def arS : List Rc → Int
  | [] => 0
  | r :: t => areaI r.x r.y r.w r.h + arS t
theorem arS_app (l m : List Rc) : arS (l ++ m) = arS l + arS m := by
  induction l with
  | nil => simp [arS]
  | cons r t ih => simp only [List.cons_append, arS, ih]; omega
theorem area_bd (r : Rc) : 0 ≤ areaI r.x r.y r.w r.h ∧ areaI r.x r.y r.w r.h ≤ 1073741824 := by
  unfold areaI
  split
  · omega
  · next h =>
    have hk : keepE r = true := by unfold keepE; simpa using h
    have := (keepE_iff r).1 hk
    constructor
    · exact Int.mul_nonneg (by omega) (by omega)
    · have : r.w * r.h ≤ 32768 * 32768 := Int.mul_le_mul (by omega) (by omega) (by omega) (by omega)
      omega
theorem arS_bd : ∀ l : List Rc, 0 ≤ arS l ∧ arS l ≤ l.length * 1073741824
  | [] => by simp [arS]
  | r :: t => by
    have h1 := area_bd r
    have h2 := arS_bd t
    simp only [arS, List.length_cons]
    omega
def areA (a : List Rc) : Int := if lisE a = 0 then arS (formF false a []) else 0

set_option maxRecDepth 10000 in
set_option maxHeartbeats 2000000 in
theorem areaL_any (a : List Rc) (va : Value) (w : World) (ha : LsR w va a) (ia : I64s a) :
    Calls Try.prog 14 #[va] w fun e w' => e = .returned (.tuple #[.int .i64 (areA a), .int .i64 (lisE a)]) ∧ Below w.heap.size w w' := by
  have H1 : Hid (Calls Try.prog 41 #[va] w fun e w' => e = .returned (.int .i64 (lisE a)) ∧ Below w.heap.size w w') := listed_any a va w ha ia
  unfold areA
  by_cases h0 : lisE a = 0
  · have hal := (lisE_zero h0).1
    have H2 : Hid (∀ W, Below w.heap.size w W → Calls Try.prog 43 #[va, (.slice none 0 0), .func (.func 44) #[] #[]] W fun e w' => ∃ u, e = .returned u ∧ w'.ownsRow W.heap.size 35 4 u (formF false a []).length (flat (formF false a [])) ∧ Below W.heap.size W w') := fun W h => form_any false a [] va (.slice none 0 0) W (ha.below h) (lsr_nil W) ia (fun r hr => by cases hr) (by omega) (by simp)
    have hFl := formF_len false a [] (by omega) (by simp)
    have HK : Hid (∀ r ∈ formF false a [], keepE r = true) := form_keep false a []
    rw [h0] at H1 ⊢
    rw [if_pos rfl]
    generalize formF false a [] = F at *
    obtain ⟨T, HT⟩ : ∃ T, Hid (T = arS F) := ⟨_, rfl⟩
    rw [← HT.out]
    clear ha ia h0
    go_enter Try.func14, Try.ntmps14
    go_wp2_with fail
    refine H1.out.mono ?_
    rintro e w1 ⟨rfl, hb1⟩
    have HB : Hid (Below w.heap.size w w1) := hb1
    clear hb1
    go_wp2_with fail
    refine (H2.out _ HB.out).mono ?_
    rintro e w2 ⟨u, rfl, hu, hb2⟩
    have HU : Hid (Below w.heap.size w w2) := HB.out.trans (hb2.mono HB.out.size)
    obtain ⟨ou, cu, rfl, hcu, hgu⟩ := lsr_own hu
    have HG : Hid (0 < F.length → ∃ g o, ou = some ⟨g, o, none⟩ ∧ g < w2.heap.size ∧ ∀ i (h : i < F.length), RcAt w2 g (o + i * 4) F[i]) := hgu
    clear hb2 hu hgu
    go_wp2_with fail
    go_loopw [5, 16] (fun s i wr => ∃ k : Nat, k ≤ F.length ∧ i = .int .i64 k ∧ s = .int .i64 (arS (F.take k)) ∧ Below w2.heap.size w2 wr) (fun _ i _ => F.length - (intOf i).toNat)
    case atStart => exact ⟨0, Nat.zero_le _, rfl, rfl, Below.refl _ _⟩
    case round =>
      obtain ⟨k, hk, rfl, rfl, L⟩ := hrel
      by_cases hlt : k < F.length
      · obtain ⟨g, o, rfl, hg, hat⟩ := HG.out (by omega)
        obtain ⟨x0, x1, x2, x3⟩ := (hat k hlt).kept (w' := wr) fun j => L.cell (p := ⟨g, j, none⟩) hg
        have e1 : F.take (k + 1) = F.take k ++ [F[k]] := (List.take_append_getElem hlt).symm
        have hkp := (keepE_iff _).1 (HK.out _ (List.getElem_mem hlt))
        have hab := area_bd F[k]
        have hsb := arS_bd (F.take k)
        rw [List.length_take] at hsb
        have HA : Hid (∀ w, Calls Try.prog 48 #[.agg #[.int .i64 F[k].x, .int .i64 F[k].y, .int .i64 F[k].w, .int .i64 F[k].h]] w fun e w' => e = .returned (.int .i64 (areaI F[k].x F[k].y F[k].w F[k].h)) ∧ Below w.heap.size w w') := fun w => area_any _ _ _ _ w (by unfold I64; omega) (by unfold I64; omega)
        have HN : Hid (arS (F.take (k + 1)) = arS (F.take k) + areaI F[k].x F[k].y F[k].w F[k].h) := by unfold Hid; rw [e1, arS_app]; simp [arS]
        generalize F[k] = x at *
        generalize areaI x.x x.y x.w x.h = ar at *
        generalize arS (F.take k) = sm at *
        have hb0 : Hid (Below w2.heap.size w2 (wr.alloc (.cells #[.int .i64 x.x, .int .i64 x.y, .int .i64 x.w, .int .i64 x.h] 35))) := L.alloc L.size _
        clear hat e1 L
        go_wp2_with fail
        refine (HA.out _).mono ?_
        rintro e w4 ⟨rfl, hb4⟩
        have HRel : Hid (∃ k' : Nat, k' ≤ F.length ∧ Value.int .i64 ((k : Int) + 1) = .int .i64 k' ∧ Value.int .i64 (sm + ar) = .int .i64 (arS (F.take k')) ∧ Below w2.heap.size w2 w4) := ⟨k + 1, by omega, by go_num, by rw [HN.out], hb0.out.trans (hb4.mono hb0.out.size)⟩
        clear hb4
        go_wp2
        exact ⟨HRel.out, by simp [intOf]; omega⟩
      · obtain rfl : k = F.length := by omega
        rw [List.take_length, ← HT.out]
        have HL : Hid (Below w.heap.size w wr) := HU.out.trans (L.mono HU.out.size)
        clear L
        go_wp2
        go_ret2
        exact ⟨rfl, HL.out⟩
  · rw [if_neg h0]
    generalize lisE a = ea at *
    have h1 : (ea != 0) = true := by simp [h0]
    clear ha ia h0
    go_enter Try.func14, Try.ntmps14
    go_wp2_with fail
    refine H1.out.mono ?_
    rintro e w1 ⟨rfl, hb1⟩
    have HB : Hid (Below w.heap.size w w1) := hb1
    clear hb1
    go_wp2
    go_ret2
    exact ⟨rfl, HB.out⟩

end Go.Proofs.Ytagkbpceiedikaa
