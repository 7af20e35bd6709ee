/-
  Texts of this claim, one behind the other: what each is about stands ahead of it.
-/
import Derived.Test.YtbghjmkgicdnoaaK22
import Derived.Test.YtbghjmkgicdnoaaK21
import Derived.Test.YtbghjmkgicdnoaaK14
/-
  Contracts of package list: Check.
-/
namespace Go.Proofs.Ytbghjmkgicdnoaa
open Go.RowKit

/-- Places that a machine's numbers hold. -/
def Xys (l : List St) : Prop := ∀ s ∈ l, I64 s.r.x ∧ I64 s.r.y

set_option maxRecDepth 20000 in
set_option maxHeartbeats 4000000 in
theorem lcheck_any (l : List St) (v : Value) (w : World) (hv : LsS w v l) (ht : Txs l) (hi : Xys l) :
    Calls Try.prog 10 #[v] w fun e w' => e = .returned (.int .i64 (chkS l)) ∧ Below w.heap.size w w' := by
  obtain ⟨oa, cap, rfl, hc, hg⟩ := hv
  have HG : Hid (0 < l.length → ∃ g o, oa = some ⟨g, o, none⟩ ∧ g < w.heap.size ∧ ∀ i (h : i < l.length), StAt w g (o + i * 15) l[i]) := hg
  have HT : Hid (Txs l ∧ Xys l) := ⟨ht, hi⟩
  clear hg ht hi
  unfold chkS
  by_cases hm : 16384 < l.length
  · rw [if_pos hm]
    go_enter Try.func10, Try.ntmps10
    go_wp2
    go_ret
    exact ⟨rfl, Below.refl _ _⟩
  rw [if_neg hm]
  obtain ⟨R, hR⟩ : ∃ R : Int, clpE 0 l = R := ⟨_, rfl⟩
  rw [hR]
  go_enter Try.func10, Try.ntmps10
  go_wp2_with fail
  go_loopw [3, 12] (fun n i wr => ∃ m k : Nat, n = .int .i64 m ∧ m ≤ k ∧ i = .int .i64 k ∧ k ≤ l.length ∧ Hid (clpE m (l.drop k) = R ∧ Below w.heap.size w wr)) (fun _ i _ => l.length - (intOf i).toNat)
  case atStart => exact ⟨0, 0, rfl, Nat.le_refl _, rfl, Nat.zero_le _, hR, Below.refl _ _⟩
  case round =>
    clear hR
    obtain ⟨m, k, rfl, hmk, rfl, hk, HK⟩ := hrel
    by_cases hlt : k < l.length
    · obtain ⟨g, o, rfl, hg, hat⟩ := HG.out (by omega)
      have hx := (hat k hlt).kept (w' := wr) fun j => HK.out.2.cell (p := ⟨g, j, none⟩) hg
      have hst := clp_step (show clpE m (l[k] :: l.drop (k + 1)) = R by rw [← List.drop_eq_getElem_cons hlt]; exact HK.out.1)
      have HR : Hid (∀ w, Calls Try.prog 35 #[(Value.agg #[.int .u8 l[k].k, .int .i64 l[k].r.x, .int .i64 l[k].r.y, .int .i64 l[k].r.w, .int .i64 l[k].r.h, .int .u8 l[k].c.r, .int .u8 l[k].c.g, .int .u8 l[k].c.b, .int .u8 l[k].c.a, .int .u8 l[k].b.r, .int .u8 l[k].b.g, .int .u8 l[k].b.b, .int .u8 l[k].b.a, .string l[k].t, .int .i64 l[k].n])] w fun e w' => e = .returned (.int .i64 (oneE l[k])) ∧ Below w.heap.size w w') := fun w => mayBe_any _ w (HT.out.1 _ (List.getElem_mem hlt)) (HT.out.2 _ (List.getElem_mem hlt)).1 (HT.out.2 _ (List.getElem_mem hlt)).2
      have HX : Hid (∀ W, Below (wr.alloc (.cells (#[.int .u8 l[k].k, .int .i64 l[k].r.x, .int .i64 l[k].r.y, .int .i64 l[k].r.w, .int .i64 l[k].r.h, .int .u8 l[k].c.r, .int .u8 l[k].c.g, .int .u8 l[k].c.b, .int .u8 l[k].c.a, .int .u8 l[k].b.r, .int .u8 l[k].b.g, .int .u8 l[k].b.b, .int .u8 l[k].b.a, .string l[k].t, .int .i64 l[k].n]) 31)).heap.size (wr.alloc (.cells (#[.int .u8 l[k].k, .int .i64 l[k].r.x, .int .i64 l[k].r.y, .int .i64 l[k].r.w, .int .i64 l[k].r.h, .int .u8 l[k].c.r, .int .u8 l[k].c.g, .int .u8 l[k].c.b, .int .u8 l[k].c.a, .int .u8 l[k].b.r, .int .u8 l[k].b.g, .int .u8 l[k].b.b, .int .u8 l[k].b.a, .string l[k].t, .int .i64 l[k].n]) 31)) W → W.cell? ⟨wr.heap.size, 0, none⟩ = some (.int .u8 l[k].k) ∧ Below w.heap.size w W) := fun W h => by
        refine ⟨?_, ?_⟩
        · have := ((Bk.new wr (#[.int .u8 l[k].k, .int .i64 l[k].r.x, .int .i64 l[k].r.y, .int .i64 l[k].r.w, .int .i64 l[k].r.h, .int .u8 l[k].c.r, .int .u8 l[k].c.g, .int .u8 l[k].c.b, .int .u8 l[k].c.a, .int .u8 l[k].b.r, .int .u8 l[k].b.g, .int .u8 l[k].b.b, .int .u8 l[k].b.a, .string l[k].t, .int .i64 l[k].n]) 31).below h).cell 0
          simpa using this
        · have h2 : Below w.heap.size w (wr.alloc (.cells (#[.int .u8 l[k].k, .int .i64 l[k].r.x, .int .i64 l[k].r.y, .int .i64 l[k].r.w, .int .i64 l[k].r.h, .int .u8 l[k].c.r, .int .u8 l[k].c.g, .int .u8 l[k].c.b, .int .u8 l[k].c.a, .int .u8 l[k].b.r, .int .u8 l[k].b.g, .int .u8 l[k].b.b, .int .u8 l[k].b.a, .string l[k].t, .int .i64 l[k].n]) 31)) := HK.out.2.alloc HK.out.2.size _
          exact h2.trans (h.mono h2.size)
      have hcs := oneE_cases l[k]
      have h45 : oneE l[k] = 0 → l[k].k = 1 ∨ l[k].k = 2 ∨ l[k].k = 3 ∨ l[k].k = 4 ∨ l[k].k = 5 := fun h => (oneE_zero h).2.1
      have HS : Hid ((oneE l[k] ≠ 0 → R = oneE l[k]) ∧ (oneE l[k] = 0 → l[k].k = 5 → m = 0 → R = 130) ∧ (oneE l[k] = 0 → ¬ (l[k].k = 5 ∧ m = 0) → clpE (opn m l[k]) (l.drop (k + 1)) = R)) := hst
      have HO : Hid ((l[k].k = 4 → opn m l[k] = m + 1) ∧ (l[k].k = 5 → opn m l[k] = m - 1) ∧ (l[k].k < 4 → opn m l[k] = m)) := by
        unfold Hid opn
        exact ⟨fun h => by rw [if_pos h], fun h => by rw [if_neg (by omega), if_pos h], fun h => by rw [if_neg (by omega), if_neg (by omega)]⟩
      clear hat hst HT
      generalize oneE l[k] = c at *
      generalize l[k] = x at *
      obtain ⟨x0, x1, x2, x3, x4, x5, x6, x7, x8, x9, x10, x11, x12, x13, x14⟩ := hx
      rcases hcs with rfl | rfl | rfl
      · have hk5 := h45 rfl
        clear h45
        go_wp2_with fail
        refine (HR.out _).mono ?_
        rintro e w1 ⟨rfl, hb⟩
        obtain ⟨y0, hB⟩ := HX.out _ hb
        have H1 : Hid (Below w.heap.size w w1) := hB
        clear hb hB x0 x1 x2 x3 x4 x5 x6 x7 x8 x9 x10 x11 x12 x13 x14 HX HR
        have HS2 : Hid (x.k < 4 → clpE m (l.drop (k + 1)) = R) := fun h => by
          have q := HS.out.2.2 (by simp) (fun e => by omega)
          rwa [HO.out.2.2 h] at q
        have HS4 : Hid (x.k = 4 → clpE (m + 1) (l.drop (k + 1)) = R) := fun h => by
          have q := HS.out.2.2 (by simp) (fun e => by omega)
          rwa [HO.out.1 h] at q
        have HS5 : Hid (x.k = 5 → m = 0 → R = 130) := fun h h2 => HS.out.2.1 (by simp) h h2
        have HS6 : Hid (x.k = 5 → m ≠ 0 → clpE (m - 1) (l.drop (k + 1)) = R) := fun h h2 => by
          have q := HS.out.2.2 (by simp) (fun e => h2 e.2)
          rwa [HO.out.2.1 h] at q
        clear HS HO
        rcases hk5 with k1 | k1 | k1 | k1 | k1
        iterate 3
          · have HF := HS2.out (by omega)
            have HF' : Hid (clpE m (l.drop (k + 1)) = R ∧ Below w.heap.size w w1) := ⟨HF, H1.out⟩
            clear HF HS2 HS4 HS5 HS6
            go_wp2
            go_roundw
            case rel => exact ⟨m, k + 1, rfl, by omega, by go_num, by omega, HF'⟩
            case measure => simp [intOf]; omega
        · have HF := HS4.out k1
          have HF' : Hid (clpE (m + 1) (l.drop (k + 1)) = R ∧ Below w.heap.size w w1) := ⟨HF, H1.out⟩
          clear HF HS2 HS4 HS5 HS6
          go_wp2
          go_roundw
          case rel => exact ⟨m + 1, k + 1, by go_num, by omega, by go_num, by omega, HF'⟩
          case measure => simp [intOf]; omega
        · by_cases hm0 : m = 0
          · have e := HS5.out k1 hm0
            subst hm0
            subst e
            clear HS2 HS4 HS5 HS6
            go_wp2
            go_ret
            exact ⟨rfl, H1.out⟩
          · have HF := HS6.out k1 hm0
            obtain ⟨m', rfl⟩ : ∃ m', m = m' + 1 := ⟨m - 1, by omega⟩
            have HF' : Hid (clpE m' (l.drop (k + 1)) = R ∧ Below w.heap.size w w1) := ⟨HF, H1.out⟩
            clear HF HS2 HS4 HS5 HS6 hm0
            go_wp2
            go_roundw
            case rel => exact ⟨m', k + 1, by go_num, by omega, by go_num, by omega, HF'⟩
            case measure => simp [intOf]; omega
      iterate 2
        · have e := HS.out.1 (by decide)
          subst e
          clear h45 HS HO
          go_wp2_with fail
          refine (HR.out _).mono ?_
          rintro e w1 ⟨rfl, hb⟩
          obtain ⟨y0, hB⟩ := HX.out _ hb
          have H1 : Hid (Below w.heap.size w w1) := hB
          clear hb hB
          go_wp2
          go_ret
          exact ⟨rfl, H1.out⟩
    · obtain rfl : k = l.length := by omega
      have hR := HK.out.1
      rw [List.drop_length] at hR
      have H1 : Hid (Below w.heap.size w wr) := HK.out.2
      unfold clpE at hR
      by_cases hm0 : 0 < m
      · rw [if_pos hm0] at hR
        subst hR
        clear HK HT
        go_wp2
        go_ret
        exact ⟨rfl, H1.out⟩
      · rw [if_neg hm0] at hR
        subst hR
        obtain rfl : m = 0 := by omega
        clear HK HT
        go_wp2
        go_ret
        exact ⟨rfl, H1.out⟩

end Go.Proofs.Ytbghjmkgicdnoaa

/-
  Contracts of package list: Same, Join.
-/
namespace Go.Proofs.Ytbghjmkgicdnoaa
open Go.RowKit

set_option maxRecDepth 20000 in
set_option maxHeartbeats 4000000 in
theorem equalZ_any (a b : List St) (va vb : Value) (w : World) (ha : LsS w va a) (hb : LsS w vb b) (hl : a.length < 1000000) :
    Calls Try.prog 48 #[va, vb] w fun e w' => e = .returned (.bool (samZ a b)) ∧ Below w.heap.size w w' := by
  obtain ⟨oa, ca, rfl, hca, hga⟩ := ha
  obtain ⟨ob, cb, rfl, hcb, hgb⟩ := hb
  by_cases hn : a.length = b.length
  case neg =>
    have hn' : ((a.length : Int) == (b.length : Int)) = false := beq_eq_false_iff_ne.2 (by omega)
    rw [samZ_no (fun h => hn (by rw [h]))]
    clear hga hgb hn
    go_enter Try.func48, Try.ntmps48
    go_wp2
    go_ret
    exact ⟨rfl, Below.refl _ _⟩
  case pos =>
    have HA : Hid (0 < a.length → ∃ g o, oa = some ⟨g, o, none⟩ ∧ g < w.heap.size ∧ ∀ i (h : i < a.length), StAt w g (o + i * 15) a[i]) := hga
    have HB : Hid (0 < b.length → ∃ g o, ob = some ⟨g, o, none⟩ ∧ g < w.heap.size ∧ ∀ i (h : i < b.length), StAt w g (o + i * 15) b[i]) := hgb
    obtain ⟨R, HR⟩ : ∃ R, Hid (samZ a b = R) := ⟨_, rfl⟩
    rw [HR.out]
    have HN : Hid (a.length = b.length) := hn
    obtain ⟨m, hm⟩ : ∃ m, m = b.length := ⟨_, rfl⟩
    have hm2 : a.length = m := by rw [hm]; exact hn
    have HM : Hid (b.length = m ∧ a.length = m) := ⟨hm.symm, hm2⟩
    rw [← hm]
    rw [hm2]
    rw [hm2] at hl
    clear hga hgb hn hm hm2 hca hcb
    go_enter Try.func48, Try.ntmps48
    go_wp2_with fail
    go_loopw [13] (fun i wr => ∃ k : Nat, k ≤ m ∧ i = .int .i64 k ∧ Hid ((∀ j, j < k → a[j]? = b[j]?) ∧ Below w.heap.size w wr)) (fun i _ => m - (intOf i).toNat)
    case atStart => exact ⟨0, Nat.zero_le _, rfl, fun j hj => absurd hj (Nat.not_lt_zero _), Below.refl _ _⟩
    case round =>
      obtain ⟨k, hk, rfl, HK⟩ := hrel
      by_cases hlt : k < m
      · have ik : (k : Int) < m := by omega
        have hla : k < a.length := by rw [HM.out.2]; exact hlt
        have hlb : k < b.length := by rw [HM.out.1]; exact hlt
        obtain ⟨g, o, rfl, hg, hat⟩ := HA.out (by omega)
        obtain ⟨g', o', rfl, hg', hat'⟩ := HB.out (by omega)
        have hx := (hat k hla).kept (w' := wr) fun j => HK.out.2.cell (p := ⟨g, j, none⟩) hg
        have hy := (hat' k hlb).kept (w' := wr) fun j => HK.out.2.cell (p := ⟨g', j, none⟩) hg'
        have HE : Hid (a[k]? = some a[k] ∧ b[k]? = some b[k]) := ⟨List.getElem?_eq_getElem hla, List.getElem?_eq_getElem hlb⟩
        clear hat hat'
        generalize a[k] = x at *
        generalize b[k] = y at *
        obtain ⟨x0, x1, x2, x3, x4, x5, x6, x7, x8, x9, x10, x11, x12, x13, x14⟩ := hx
        obtain ⟨y0, y1, y2, y3, y4, y5, y6, y7, y8, y9, y10, y11, y12, y13, y14⟩ := hy
        have hq := neq_stroke x y
        cases ht : eqS x y
        · have HF : Hid (R = false ∧ Below w.heap.size w wr) := by
            refine ⟨?_, HK.out.2⟩
            rw [← HR.out]
            refine samZ_no fun e => ?_
            have h1 := HE.out.1
            rw [e, HE.out.2] at h1
            injection h1 with h1
            rw [h1, eqS_self] at ht
            cases ht
          rw [ht] at hq
          clear HK HE ht hla hlb
          go_wp2_with fail
          go_quiet (fail)
          go_wp2
          go_ret
          exact ⟨by rw [HF.out.1]; rfl, below_drewN HF.out.2⟩
        · have HF : Hid ((∀ j, j < k + 1 → a[j]? = b[j]?) ∧ Below w.heap.size w wr) := by
            refine ⟨fun j hj => ?_, HK.out.2⟩
            by_cases hjk : j = k
            · subst hjk; rw [HE.out.1, HE.out.2, (eqS_iff x y).1 ht]
            · exact HK.out.1 j (by omega)
          rw [ht] at hq
          clear HK HE ht hla hlb
          go_wp2_with fail
          go_quiet (fail)
          go_wp2
          go_roundw
          case rel => exact ⟨k + 1, by omega, by go_num, HF.out.1, below_drewN HF.out.2⟩
          case measure => simp [intOf]; omega
      · obtain rfl : k = m := by omega
        have HF : Hid (R = true ∧ Below w.heap.size w wr) := by
          refine ⟨?_, HK.out.2⟩
          rw [← HR.out, samZ_iff]
          refine List.ext_getElem? fun j => ?_
          by_cases hj : j < k
          · exact HK.out.1 j hj
          · rw [List.getElem?_eq_none (by have := HM.out.2; omega), List.getElem?_eq_none (by have := HM.out.1; omega)]
        clear HK
        go_wp2
        go_ret
        exact ⟨by rw [HF.out.1]; rfl, HF.out.2⟩

theorem lsame_any (a b : List St) (va vb : Value) (w : World) (ha : LsS w va a) (hb : LsS w vb b) (hl : a.length < 1000000) :
    Calls Try.prog 25 #[va, vb] w fun e w' => e = .returned (.bool (samZ a b)) ∧ Below w.heap.size w w' := by
  have HE : Hid (Calls Try.prog 48 #[va, vb] w fun e w' => e = .returned (.bool (samZ a b)) ∧ Below w.heap.size w w') := equalZ_any a b va vb w ha hb hl
  clear ha hb
  generalize samZ a b = sb at *
  go_enter Try.func25, Try.ntmps25
  go_wp2_with fail
  refine HE.out.mono ?_
  rintro e w1 ⟨rfl, hb1⟩
  have H1 : Hid (Below w.heap.size w w1) := hb1
  clear hb1
  go_wp2
  go_ret
  exact ⟨rfl, H1.out⟩

set_option maxRecDepth 20000 in
set_option maxHeartbeats 8000000 in
theorem ljoin_any (a b : List St) (va vb : Value) (w : World) (ha : LsS w va a) (hb : LsS w vb b) (na : NoNil va) (nb : NoNil vb) (ta : Txs a) (tb : Txs b) (xa : Xys a) (xb : Xys b) (la : a.length ≤ 20000) (lb : b.length ≤ 20000) :
    Calls Try.prog 19 #[va, vb] w fun e w' => AnsS w (joiL a b) (joiE a b) e w' := by
  have HC : Hid (Calls Try.prog 10 #[va] w fun e w' => e = .returned (.int .i64 (chkS a)) ∧ Below w.heap.size w w') := lcheck_any a va w ha ta xa
  have HD : Hid (∀ W, Below w.heap.size w W → Calls Try.prog 10 #[vb] W fun e w' => e = .returned (.int .i64 (chkS b)) ∧ Below W.heap.size W w') := fun W h => lcheck_any b vb W (hb.below h) tb xb
  obtain ⟨oa, ca, rfl, hca, _⟩ := id ha
  obtain ⟨ob, cb, rfl, hcb, _⟩ := id hb
  have HV : Hid (LsS w (.slice oa a.length ca) a ∧ LsS w (.slice ob b.length cb) b ∧ NoNil (.slice oa a.length ca) ∧ NoNil (.slice ob b.length cb)) := ⟨ha, hb, na, nb⟩
  clear ha hb na nb ta tb xa xb
  obtain ⟨E, hE⟩ : ∃ E, E = joiE a b := ⟨_, rfl⟩
  obtain ⟨J, hJ⟩ : ∃ J, J = joiL a b := ⟨_, rfl⟩
  rw [← hE, ← hJ]
  unfold AnsS
  have hJ2 : J = if E = 0 then a ++ b else [] := by rw [hJ, hE]; rfl
  unfold joiE at hE
  clear hJ
  by_cases h1 : chkS a = 0
  · rw [if_pos h1] at hE
    rw [h1] at HC
    by_cases h2 : chkS b = 0
    · rw [if_pos h2] at hE
      rw [h2] at HD
      by_cases h3 : 16384 < a.length + b.length
      · rw [if_pos h3] at hE
        subst hE
        have HJ : Hid (J = []) := hJ2
        have h3' : (16384 : Int) < (a.length : Int) + (b.length : Int) := by omega
        clear hJ2 h1 h2 h3
        go_enter Try.func19, Try.ntmps19
        go_wp2_with fail
        refine HC.out.mono ?_
        rintro e w1 ⟨rfl, hb1⟩
        have H1 : Hid (Below w.heap.size w w1) := hb1
        clear hb1
        go_wp2_with fail
        refine (HD.out _ H1.out).mono ?_
        rintro e w2 ⟨rfl, hb2⟩
        have H2 : Hid (Below w.heap.size w w2) := H1.out.trans (hb2.mono H1.out.size)
        clear hb2
        go_wp2
        go_ret2
        refine ⟨_, rfl, ?_⟩
        rw [HJ.out]
        exact ⟨OwS.nil _ _, H2.out⟩
      · rw [if_neg h3] at hE
        subst hE
        have HJ : Hid (J = a ++ b) := hJ2
        have h3' : ¬ (16384 : Int) < (a.length : Int) + (b.length : Int) := by omega
        have HCon : Hid (∀ W, Below w.heap.size w W → Calls Try.prog 45 #[.slice (some ⟨W.heap.size, 0, none⟩) 2 2] (W.alloc (.cells #[.slice oa a.length ca, .slice ob b.length cb] 36)) fun e w' => ∃ u, e = .returned u ∧ Hid (OwS w.heap.size w' u J ∧ Below w.heap.size w w')) := fun W h => by
          have h4 : Below w.heap.size w (W.alloc (.cells #[.slice oa a.length ca, .slice ob b.length cb] 36)) := h.alloc h.size _
          have hR : RowsS (W.alloc (.cells #[.slice oa a.length ca, .slice ob b.length cb] 36)) (.slice (some ⟨W.heap.size, 0, none⟩) 2 2) [a, b] := by
            refine ⟨_, 2, rfl, Nat.le_refl _, fun _ => ⟨W.heap.size, 0, rfl, by simp, fun k hk => ?_⟩⟩
            have hk2 : k = 0 ∨ k = 1 := by have : k < 2 := hk; omega
            rcases hk2 with rfl | rfl
            · exact ⟨_, (Bk.new W _ _).cell 0, HV.out.1.below h4, HV.out.2.2.1⟩
            · exact ⟨_, (Bk.new W _ _).cell 1, HV.out.2.1.below h4, HV.out.2.2.2⟩
          refine (concS_any [a, b] _ _ hR (by simp) (by simp; omega)).mono ?_
          rintro e w' ⟨u, rfl, hu, hb⟩
          refine ⟨u, rfl, ?_, h4.trans (hb.mono h4.size)⟩
          rw [HJ.out]
          have := hu.weaken h4.size
          simpa using this
        clear hJ2 h1 h2
        go_enter Try.func19, Try.ntmps19
        go_wp2_with fail
        refine HC.out.mono ?_
        rintro e w1 ⟨rfl, hb1⟩
        have H1 : Hid (Below w.heap.size w w1) := hb1
        clear hb1
        go_wp2_with fail
        refine (HD.out _ H1.out).mono ?_
        rintro e w2 ⟨rfl, hb2⟩
        have H2 : Hid (Below w.heap.size w w2) := H1.out.trans (hb2.mono H1.out.size)
        clear hb2
        go_wp2_with fail
        refine (HCon.out _ H2.out).mono ?_
        rintro e w3 ⟨u, rfl, HF⟩
        clear HCon
        go_wp2
        go_ret2
        exact ⟨_, rfl, HF⟩
    · rw [if_neg h2] at hE
      have hne : (E != 0) = true := by rw [hE]; simp [h2]
      have HJ : Hid (J = []) := by unfold Hid; rw [hJ2, if_neg (by rw [hE]; exact h2)]
      rw [← hE] at HD
      clear hJ2 h1 h2 hE
      go_enter Try.func19, Try.ntmps19
      go_wp2_with fail
      refine HC.out.mono ?_
      rintro e w1 ⟨rfl, hb1⟩
      have H1 : Hid (Below w.heap.size w w1) := hb1
      clear hb1
      go_wp2_with fail
      refine (HD.out _ H1.out).mono ?_
      rintro e w2 ⟨rfl, hb2⟩
      have H2 : Hid (Below w.heap.size w w2) := H1.out.trans (hb2.mono H1.out.size)
      clear hb2
      go_wp2
      go_ret2
      refine ⟨_, rfl, ?_⟩
      rw [HJ.out]
      exact ⟨OwS.nil _ _, H2.out⟩
  · rw [if_neg h1] at hE
    have hne : (E != 0) = true := by rw [hE]; simp [h1]
    have HJ : Hid (J = []) := by unfold Hid; rw [hJ2, if_neg (by rw [hE]; exact h1)]
    rw [← hE] at HC
    clear hJ2 h1 hE
    go_enter Try.func19, Try.ntmps19
    go_wp2_with fail
    refine HC.out.mono ?_
    rintro e w1 ⟨rfl, hb1⟩
    have H1 : Hid (Below w.heap.size w w1) := hb1
    clear hb1
    go_wp2
    go_ret2
    refine ⟨_, rfl, ?_⟩
    rw [HJ.out]
    exact ⟨OwS.nil _ _, H1.out⟩

end Go.Proofs.Ytbghjmkgicdnoaa

/-
  Contracts of package list: a rectangle elsewhere.
-/
namespace Go.Proofs.Ytbghjmkgicdnoaa
open Go.RowKit

theorem bk_alloc {W : World} {b : Nat} {vs : Array Value} {t : TypeId} (h : Bk W b vs t) (o : Obj) : Bk (W.alloc o) b vs t := h.below ((Below.refl _ _).alloc (Nat.le_refl _) o)
/-- A rectangle elsewhere, in a machine's numbers. -/
def elsR (r : Rc) (p q : Int) : Rc := ⟨wrap64 (r.x + p), wrap64 (r.y + q), r.w, r.h⟩
def elsA (r : Rc) (p q : Int) : Rc := if zMa (elsR r p q) = true then elsR r p q else zr
def elsF (r : Rc) (p q : Int) : Int := if zMa (elsR r p q) = true then 0 else 9
theorem wrap_in (z : Int) : I64 (wrap64 z) := by
  unfold I64 wrap64
  omega
theorem els_may {r : Rc} (h : zMa r = true) {p q : Int} (hp : I64 p) (hq : I64 q) : zMa (elsR r p q) = zMa ⟨r.x + p, r.y + q, r.w, r.h⟩ ∧ (zMa (elsR r p q) = true → elsR r p q = ⟨r.x + p, r.y + q, r.w, r.h⟩) := by
  have hb := may_iff.1 h
  unfold I64 at hp hq
  have key : ∀ a b : Int, -16384 ≤ a → a ≤ 16384 → -9223372036854775808 ≤ b → b ≤ 9223372036854775807 → wrap64 (a + b) = a + b ∨ ((wrap64 (a + b) < -1000000 ∨ 1000000 < wrap64 (a + b)) ∧ (a + b < -1000000 ∨ 1000000 < a + b)) := by
    intro a b h1 h2 h3 h4
    unfold wrap64
    omega
  have k1 := key r.x p (by omega) (by omega) hp.1 hp.2
  have k2 := key r.y q (by omega) (by omega) hq.1 hq.2
  constructor
  · rw [Bool.eq_iff_iff]
    unfold zMa elsR
    rw [may_iff, may_iff]
    simp only
    omega
  · intro k
    unfold zMa elsR at k
    have kb := may_iff.1 k
    simp only at kb
    unfold elsR
    have e1 : wrap64 (r.x + p) = r.x + p := by omega
    have e2 : wrap64 (r.y + q) = r.y + q := by omega
    rw [e1, e2]

set_option maxRecDepth 10000 in
set_option maxHeartbeats 2000000 in
theorem els_any (r : Rc) (p q : Int) (w : World) : Calls Try.prog 44 #[.agg #[.int .i64 r.x, .int .i64 r.y, .int .i64 r.w, .int .i64 r.h], .agg #[.int .i64 p, .int .i64 q]] w fun e w' => e = .returned (.tuple #[.agg #[.int .i64 (elsA r p q).x, .int .i64 (elsA r p q).y, .int .i64 (elsA r p q).w, .int .i64 (elsA r p q).h], .int .i64 (elsF r p q)]) ∧ Below w.heap.size w w' := by
  have ix := wrap_in (r.x + p)
  have iy := wrap_in (r.y + q)
  unfold elsA elsF elsR
  obtain ⟨x', ex⟩ : ∃ x', wrap64 (r.x + p) = x' := ⟨_, rfl⟩
  obtain ⟨y', ey⟩ : ∃ y', wrap64 (r.y + q) = y' := ⟨_, rfl⟩
  rw [ex] at ix ⊢
  rw [ey] at iy ⊢
  have HC : Hid (∀ W, Calls Try.prog 49 #[.agg #[.int .i64 x', .int .i64 y', .int .i64 r.w, .int .i64 r.h]] W fun e w' => e = .returned (.int .i64 (if zMa ⟨x', y', r.w, r.h⟩ = true then 0 else 5)) ∧ Below W.heap.size W w') := fun W => check_any _ _ _ _ W ix iy
  clear ix iy
  have HB : Hid (∀ W, Below (((w.alloc (.cells #[.int .i64 x', .int .i64 y', .int .i64 r.w, .int .i64 r.h] 27)).alloc (.cells #[.int .i64 p, .int .i64 q] 23)).alloc (.cells #[.int .i64 0, .int .i64 0, .int .i64 0, .int .i64 0] 27)).heap.size (((w.alloc (.cells #[.int .i64 x', .int .i64 y', .int .i64 r.w, .int .i64 r.h] 27)).alloc (.cells #[.int .i64 p, .int .i64 q] 23)).alloc (.cells #[.int .i64 0, .int .i64 0, .int .i64 0, .int .i64 0] 27)) W → Bk W w.heap.size #[.int .i64 x', .int .i64 y', .int .i64 r.w, .int .i64 r.h] 27 ∧ Bk W (w.heap.size + 1 + 1) #[.int .i64 0, .int .i64 0, .int .i64 0, .int .i64 0] 27 ∧ Below w.heap.size w W) := fun W h => by
    have h0 : Below w.heap.size w (((w.alloc (.cells #[.int .i64 x', .int .i64 y', .int .i64 r.w, .int .i64 r.h] 27)).alloc (.cells #[.int .i64 p, .int .i64 q] 23)).alloc (.cells #[.int .i64 0, .int .i64 0, .int .i64 0, .int .i64 0] 27)) := (((Below.refl _ w).alloc (Nat.le_refl _) _).alloc (by simp) _).alloc (by simp; omega) _
    refine ⟨Bk.below (bk_alloc (bk_alloc (Bk.new w _ _) _) _) h, ?_, h0.trans (h.mono h0.size)⟩
    have := Bk.new ((w.alloc (.cells #[.int .i64 x', .int .i64 y', .int .i64 r.w, .int .i64 r.h] 27)).alloc (.cells #[.int .i64 p, .int .i64 q] 23)) #[.int .i64 0, .int .i64 0, .int .i64 0, .int .i64 0] 27
    simp at this
    exact Bk.below this h
  cases hm : zMa ⟨x', y', r.w, r.h⟩
  all_goals
    rw [hm] at HC
    clear hm
    go_enter Try.func44, Try.ntmps44
    go_wp2_with fail
    refine (HC.out _).mono ?_
    rintro e w1 ⟨rfl, hb1⟩
    obtain ⟨B0, B2, L1⟩ := HB.out _ hb1
    have c0 := B0.cell 0
    have c1 := B0.cell 1
    have c2 := B0.cell 2
    have c3 := B0.cell 3
    have d0 := B2.cell 0
    have d1 := B2.cell 1
    have d2 := B2.cell 2
    have d3 := B2.cell 3
    have f0 := B2.frozen
    have l2 := B2.lt
    simp only [List.getElem?_toArray, List.getElem?_cons_zero, List.getElem?_cons_succ] at c0 c1 c2 c3 d0 d1 d2 d3
    have HL : Hid (∀ a b c d, Below w.heap.size w ((((w1.setCell ⟨w.heap.size + 1 + 1, 0, none⟩ a).setCell ⟨w.heap.size + 1 + 1, 1, none⟩ b).setCell ⟨w.heap.size + 1 + 1, 2, none⟩ c).setCell ⟨w.heap.size + 1 + 1, 3, none⟩ d)) := fun a b c d =>
      (((L1.setCell (p := ⟨w.heap.size + 1 + 1, 0, none⟩) (by simp; omega) a).setCell (p := ⟨w.heap.size + 1 + 1, 1, none⟩) (by simp; omega) b).setCell (p := ⟨w.heap.size + 1 + 1, 2, none⟩) (by simp; omega) c).setCell (p := ⟨w.heap.size + 1 + 1, 3, none⟩) (by simp; omega) d
    clear hb1 B0 B2 L1 HB HC
    go_wp2
    first
      | exact bodyPost_ret (v := .tuple #[.agg #[.int .i64 0, .int .i64 0, .int .i64 0, .int .i64 0], .int .i64 9]) (by simp [results, Try.results44, go_sem, d0, d1, d2, d3]) rfl ⟨rfl, HL.out _ _ _ _⟩
      | exact bodyPost_ret (v := .tuple #[.agg #[.int .i64 x', .int .i64 y', .int .i64 r.w, .int .i64 r.h], .int .i64 0]) (by simp [results, Try.results44, go_sem, d0, d1, d2, d3]) rfl ⟨rfl, HL.out _ _ _ _⟩

/-- Rectangles of strokes in a row, written over. -/
theorem flatZ_rect : ∀ (L : List St) (k : Nat) (h : k < L.length) (r : Rc), ((((flatZ L).set (k * 15 + 1) (.int .i64 r.x)).set (k * 15 + 2) (.int .i64 r.y)).set (k * 15 + 3) (.int .i64 r.w)).set (k * 15 + 4) (.int .i64 r.h) = flatZ (L.set k ⟨L[k].k, r, L[k].c, L[k].b, L[k].t, L[k].n⟩)
  | [], k, h, _ => absurd h (Nat.not_lt_zero _)
  | s :: L, 0, _, r => by
    show ((((sCel s ++ flatZ L).set 1 _).set 2 _).set 3 _).set 4 _ = _
    rfl
  | s :: L, k + 1, h, r => by
    have h' : k < L.length := by simpa using h
    have ih := flatZ_rect L k h' r
    have e : ∀ (X : List Value) (j : Nat) (v : Value), (sCel s ++ X).set ((k + 1) * 15 + j) v = sCel s ++ X.set (k * 15 + j) v := fun X j v => by
      rw [List.set_append_right _ _ (by rw [sCel_len]; omega), sCel_len]
      congr 2
      omega
    show ((((sCel s ++ flatZ L).set ((k + 1) * 15 + 1) _).set ((k + 1) * 15 + 2) _).set ((k + 1) * 15 + 3) _).set ((k + 1) * 15 + 4) _ = _
    rw [e, e, e, e, ih]
    rfl

end Go.Proofs.Ytbghjmkgicdnoaa
