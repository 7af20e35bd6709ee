/-
  Texts of this claim, one behind the other: what each is about stands ahead of it.
-/
import Derived.Test.YtbghjmkgicdnoaaGreatK30
import Derived.Test.YtbghjmkgicdnoaaGreatK29
import Derived.Test.YtbghjmkgicdnoaaGreatK19
import Derived.Test.YtbghjmkgicdnoaaGreatK23
import Derived.Test.YtbghjmkgicdnoaaGreatK27
import Derived.Test.YtbghjmkgicdnoaaGreatK25
import Derived.Test.YtbghjmkgicdnoaaGreatK14
/-
  Contracts of package list: Check.
-/
namespace Go.Proofs.YtbghjmkgicdnoaaGreat
open Go.RowKit

/-- Places that a machine's numbers hold. -/
def Xys (l : List St) : Prop := ∀ s ∈ l, I64 s.r.x ∧ I64 s.r.y

set_option maxRecDepth 20000 in
set_option maxHeartbeats 4000000 in
theorem lcheck_any (l : List St) (v : Value) (w : World) (hv : LsS w v l) (ht : Txs l) (hi : Xys l) :
    Calls Tryz.prog 11 #[v] w fun e w' => e = .returned (.int .i64 (chkS l)) ∧ Below w.heap.size w w' := by
  obtain ⟨oa, cap, rfl, hc, hg⟩ := hv
  have HG : Hid (0 < l.length → ∃ g o, oa = some ⟨g, o, none⟩ ∧ g < w.heap.size ∧ ∀ i (h : i < l.length), StAt w g (o + i * 15) l[i]) := hg
  have HT : Hid (Txs l ∧ Xys l) := ⟨ht, hi⟩
  clear hg ht hi
  unfold chkS
  by_cases hm : 16384 < l.length
  · rw [if_pos hm]
    go_enter Tryz.func11, Tryz.ntmps11
    go_wp2
    go_ret
    exact ⟨rfl, Below.refl _ _⟩
  rw [if_neg hm]
  obtain ⟨R, hR⟩ : ∃ R : Int, clpE 0 l = R := ⟨_, rfl⟩
  rw [hR]
  go_enter Tryz.func11, Tryz.ntmps11
  go_wp2_with fail
  go_loopw [3, 12] (fun n i wr => ∃ m k : Nat, n = .int .i64 m ∧ m ≤ k ∧ i = .int .i64 k ∧ k ≤ l.length ∧ Hid (clpE m (l.drop k) = R ∧ Below w.heap.size w wr)) (fun _ i _ => l.length - (intOf i).toNat)
  case atStart => exact ⟨0, 0, rfl, Nat.le_refl _, rfl, Nat.zero_le _, hR, Below.refl _ _⟩
  case round =>
    clear hR
    obtain ⟨m, k, rfl, hmk, rfl, hk, HK⟩ := hrel
    by_cases hlt : k < l.length
    · obtain ⟨g, o, rfl, hg, hat⟩ := HG.out (by omega)
      have hx := (hat k hlt).kept (w' := wr) fun j => HK.out.2.cell (p := ⟨g, j, none⟩) hg
      have hst := clp_step (show clpE m (l[k] :: l.drop (k + 1)) = R by rw [← List.drop_eq_getElem_cons hlt]; exact HK.out.1)
      have HR : Hid (∀ w, Calls Tryz.prog 31 #[(Value.agg #[.int .u8 l[k].k, .int .i64 l[k].r.x, .int .i64 l[k].r.y, .int .i64 l[k].r.w, .int .i64 l[k].r.h, .int .u8 l[k].c.r, .int .u8 l[k].c.g, .int .u8 l[k].c.b, .int .u8 l[k].c.a, .int .u8 l[k].b.r, .int .u8 l[k].b.g, .int .u8 l[k].b.b, .int .u8 l[k].b.a, .string l[k].t, .int .i64 l[k].n])] w fun e w' => e = .returned (.int .i64 (oneE l[k])) ∧ Below w.heap.size w w') := fun w => mayBe_any _ w (HT.out.1 _ (List.getElem_mem hlt)) (HT.out.2 _ (List.getElem_mem hlt)).1 (HT.out.2 _ (List.getElem_mem hlt)).2
      have HX : Hid (∀ W, Below (wr.alloc (.cells (#[.int .u8 l[k].k, .int .i64 l[k].r.x, .int .i64 l[k].r.y, .int .i64 l[k].r.w, .int .i64 l[k].r.h, .int .u8 l[k].c.r, .int .u8 l[k].c.g, .int .u8 l[k].c.b, .int .u8 l[k].c.a, .int .u8 l[k].b.r, .int .u8 l[k].b.g, .int .u8 l[k].b.b, .int .u8 l[k].b.a, .string l[k].t, .int .i64 l[k].n]) 48)).heap.size (wr.alloc (.cells (#[.int .u8 l[k].k, .int .i64 l[k].r.x, .int .i64 l[k].r.y, .int .i64 l[k].r.w, .int .i64 l[k].r.h, .int .u8 l[k].c.r, .int .u8 l[k].c.g, .int .u8 l[k].c.b, .int .u8 l[k].c.a, .int .u8 l[k].b.r, .int .u8 l[k].b.g, .int .u8 l[k].b.b, .int .u8 l[k].b.a, .string l[k].t, .int .i64 l[k].n]) 48)) W → W.cell? ⟨wr.heap.size, 0, none⟩ = some (.int .u8 l[k].k) ∧ Below w.heap.size w W) := fun W h => by
        refine ⟨?_, ?_⟩
        · have := ((Bk.new wr (#[.int .u8 l[k].k, .int .i64 l[k].r.x, .int .i64 l[k].r.y, .int .i64 l[k].r.w, .int .i64 l[k].r.h, .int .u8 l[k].c.r, .int .u8 l[k].c.g, .int .u8 l[k].c.b, .int .u8 l[k].c.a, .int .u8 l[k].b.r, .int .u8 l[k].b.g, .int .u8 l[k].b.b, .int .u8 l[k].b.a, .string l[k].t, .int .i64 l[k].n]) 48).below h).cell 0
          simpa using this
        · have h2 : Below w.heap.size w (wr.alloc (.cells (#[.int .u8 l[k].k, .int .i64 l[k].r.x, .int .i64 l[k].r.y, .int .i64 l[k].r.w, .int .i64 l[k].r.h, .int .u8 l[k].c.r, .int .u8 l[k].c.g, .int .u8 l[k].c.b, .int .u8 l[k].c.a, .int .u8 l[k].b.r, .int .u8 l[k].b.g, .int .u8 l[k].b.b, .int .u8 l[k].b.a, .string l[k].t, .int .i64 l[k].n]) 48)) := HK.out.2.alloc HK.out.2.size _
          exact h2.trans (h.mono h2.size)
      have hcs := oneE_cases l[k]
      have h45 : oneE l[k] = 0 → l[k].k = 1 ∨ l[k].k = 2 ∨ l[k].k = 3 ∨ l[k].k = 4 ∨ l[k].k = 5 := fun h => (oneE_zero h).2.1
      have HS : Hid ((oneE l[k] ≠ 0 → R = oneE l[k]) ∧ (oneE l[k] = 0 → l[k].k = 5 → m = 0 → R = 130) ∧ (oneE l[k] = 0 → ¬ (l[k].k = 5 ∧ m = 0) → clpE (opn m l[k]) (l.drop (k + 1)) = R)) := hst
      have HO : Hid ((l[k].k = 4 → opn m l[k] = m + 1) ∧ (l[k].k = 5 → opn m l[k] = m - 1) ∧ (l[k].k < 4 → opn m l[k] = m)) := by
        unfold Hid opn
        exact ⟨fun h => by rw [if_pos h], fun h => by rw [if_neg (by omega), if_pos h], fun h => by rw [if_neg (by omega), if_neg (by omega)]⟩
      clear hat hst HT
      generalize oneE l[k] = c at *
      generalize l[k] = x at *
      obtain ⟨x0, x1, x2, x3, x4, x5, x6, x7, x8, x9, x10, x11, x12, x13, x14⟩ := hx
      rcases hcs with rfl | rfl | rfl
      · have hk5 := h45 rfl
        clear h45
        go_wp2_with fail
        refine (HR.out _).mono ?_
        rintro e w1 ⟨rfl, hb⟩
        obtain ⟨y0, hB⟩ := HX.out _ hb
        have H1 : Hid (Below w.heap.size w w1) := hB
        clear hb hB x0 x1 x2 x3 x4 x5 x6 x7 x8 x9 x10 x11 x12 x13 x14 HX HR
        have HS2 : Hid (x.k < 4 → clpE m (l.drop (k + 1)) = R) := fun h => by
          have q := HS.out.2.2 (by simp) (fun e => by omega)
          rwa [HO.out.2.2 h] at q
        have HS4 : Hid (x.k = 4 → clpE (m + 1) (l.drop (k + 1)) = R) := fun h => by
          have q := HS.out.2.2 (by simp) (fun e => by omega)
          rwa [HO.out.1 h] at q
        have HS5 : Hid (x.k = 5 → m = 0 → R = 130) := fun h h2 => HS.out.2.1 (by simp) h h2
        have HS6 : Hid (x.k = 5 → m ≠ 0 → clpE (m - 1) (l.drop (k + 1)) = R) := fun h h2 => by
          have q := HS.out.2.2 (by simp) (fun e => h2 e.2)
          rwa [HO.out.2.1 h] at q
        clear HS HO
        rcases hk5 with k1 | k1 | k1 | k1 | k1
        iterate 3
          · have HF := HS2.out (by omega)
            have HF' : Hid (clpE m (l.drop (k + 1)) = R ∧ Below w.heap.size w w1) := ⟨HF, H1.out⟩
            clear HF HS2 HS4 HS5 HS6
            go_wp2
            go_roundw
            case rel => exact ⟨m, k + 1, rfl, by omega, by go_num, by omega, HF'⟩
            case measure => simp [intOf]; omega
        · have HF := HS4.out k1
          have HF' : Hid (clpE (m + 1) (l.drop (k + 1)) = R ∧ Below w.heap.size w w1) := ⟨HF, H1.out⟩
          clear HF HS2 HS4 HS5 HS6
          go_wp2
          go_roundw
          case rel => exact ⟨m + 1, k + 1, by go_num, by omega, by go_num, by omega, HF'⟩
          case measure => simp [intOf]; omega
        · by_cases hm0 : m = 0
          · have e := HS5.out k1 hm0
            subst hm0
            subst e
            clear HS2 HS4 HS5 HS6
            go_wp2
            go_ret
            exact ⟨rfl, H1.out⟩
          · have HF := HS6.out k1 hm0
            obtain ⟨m', rfl⟩ : ∃ m', m = m' + 1 := ⟨m - 1, by omega⟩
            have HF' : Hid (clpE m' (l.drop (k + 1)) = R ∧ Below w.heap.size w w1) := ⟨HF, H1.out⟩
            clear HF HS2 HS4 HS5 HS6 hm0
            go_wp2
            go_roundw
            case rel => exact ⟨m', k + 1, by go_num, by omega, by go_num, by omega, HF'⟩
            case measure => simp [intOf]; omega
      iterate 2
        · have e := HS.out.1 (by decide)
          subst e
          clear h45 HS HO
          go_wp2_with fail
          refine (HR.out _).mono ?_
          rintro e w1 ⟨rfl, hb⟩
          obtain ⟨y0, hB⟩ := HX.out _ hb
          have H1 : Hid (Below w.heap.size w w1) := hB
          clear hb hB
          go_wp2
          go_ret
          exact ⟨rfl, H1.out⟩
    · obtain rfl : k = l.length := by omega
      have hR := HK.out.1
      rw [List.drop_length] at hR
      have H1 : Hid (Below w.heap.size w wr) := HK.out.2
      unfold clpE at hR
      by_cases hm0 : 0 < m
      · rw [if_pos hm0] at hR
        subst hR
        clear HK HT
        go_wp2
        go_ret
        exact ⟨rfl, H1.out⟩
      · rw [if_neg hm0] at hR
        subst hR
        obtain rfl : m = 0 := by omega
        clear HK HT
        go_wp2
        go_ret
        exact ⟨rfl, H1.out⟩

end Go.Proofs.YtbghjmkgicdnoaaGreat

/-
  Contracts of package list: Same, Join.
-/
namespace Go.Proofs.YtbghjmkgicdnoaaGreat
open Go.RowKit

set_option maxRecDepth 20000 in
set_option maxHeartbeats 4000000 in
theorem equalZ_any (a b : List St) (va vb : Value) (w : World) (ha : LsS w va a) (hb : LsS w vb b) (hl : a.length < 1000000) :
    Calls Tryz.prog 33 #[va, vb] w fun e w' => e = .returned (.bool (samZ a b)) ∧ Below w.heap.size w w' := by
  obtain ⟨oa, ca, rfl, hca, hga⟩ := ha
  obtain ⟨ob, cb, rfl, hcb, hgb⟩ := hb
  by_cases hn : a.length = b.length
  case neg =>
    have hn' : ((a.length : Int) == (b.length : Int)) = false := beq_eq_false_iff_ne.2 (by omega)
    rw [samZ_no (fun h => hn (by rw [h]))]
    clear hga hgb hn
    go_enter Tryz.func33, Tryz.ntmps33
    go_wp2
    go_ret
    exact ⟨rfl, Below.refl _ _⟩
  case pos =>
    have HA : Hid (0 < a.length → ∃ g o, oa = some ⟨g, o, none⟩ ∧ g < w.heap.size ∧ ∀ i (h : i < a.length), StAt w g (o + i * 15) a[i]) := hga
    have HB : Hid (0 < b.length → ∃ g o, ob = some ⟨g, o, none⟩ ∧ g < w.heap.size ∧ ∀ i (h : i < b.length), StAt w g (o + i * 15) b[i]) := hgb
    obtain ⟨R, HR⟩ : ∃ R, Hid (samZ a b = R) := ⟨_, rfl⟩
    rw [HR.out]
    have HN : Hid (a.length = b.length) := hn
    obtain ⟨m, hm⟩ : ∃ m, m = b.length := ⟨_, rfl⟩
    have hm2 : a.length = m := by rw [hm]; exact hn
    have HM : Hid (b.length = m ∧ a.length = m) := ⟨hm.symm, hm2⟩
    rw [← hm]
    rw [hm2]
    rw [hm2] at hl
    clear hga hgb hn hm hm2 hca hcb
    go_enter Tryz.func33, Tryz.ntmps33
    go_wp2_with fail
    go_loopw [13] (fun i wr => ∃ k : Nat, k ≤ m ∧ i = .int .i64 k ∧ Hid ((∀ j, j < k → a[j]? = b[j]?) ∧ Below w.heap.size w wr)) (fun i _ => m - (intOf i).toNat)
    case atStart => exact ⟨0, Nat.zero_le _, rfl, fun j hj => absurd hj (Nat.not_lt_zero _), Below.refl _ _⟩
    case round =>
      obtain ⟨k, hk, rfl, HK⟩ := hrel
      by_cases hlt : k < m
      · have ik : (k : Int) < m := by omega
        have hla : k < a.length := by rw [HM.out.2]; exact hlt
        have hlb : k < b.length := by rw [HM.out.1]; exact hlt
        obtain ⟨g, o, rfl, hg, hat⟩ := HA.out (by omega)
        obtain ⟨g', o', rfl, hg', hat'⟩ := HB.out (by omega)
        have hx := (hat k hla).kept (w' := wr) fun j => HK.out.2.cell (p := ⟨g, j, none⟩) hg
        have hy := (hat' k hlb).kept (w' := wr) fun j => HK.out.2.cell (p := ⟨g', j, none⟩) hg'
        have HE : Hid (a[k]? = some a[k] ∧ b[k]? = some b[k]) := ⟨List.getElem?_eq_getElem hla, List.getElem?_eq_getElem hlb⟩
        clear hat hat'
        generalize a[k] = x at *
        generalize b[k] = y at *
        obtain ⟨x0, x1, x2, x3, x4, x5, x6, x7, x8, x9, x10, x11, x12, x13, x14⟩ := hx
        obtain ⟨y0, y1, y2, y3, y4, y5, y6, y7, y8, y9, y10, y11, y12, y13, y14⟩ := hy
        have hq := neq_stroke x y
        cases ht : eqS x y
        · have HF : Hid (R = false ∧ Below w.heap.size w wr) := by
            refine ⟨?_, HK.out.2⟩
            rw [← HR.out]
            refine samZ_no fun e => ?_
            have h1 := HE.out.1
            rw [e, HE.out.2] at h1
            injection h1 with h1
            rw [h1, eqS_self] at ht
            cases ht
          rw [ht] at hq
          clear HK HE ht hla hlb
          go_wp2_with fail
          go_quiet (fail)
          go_wp2
          go_ret
          exact ⟨by rw [HF.out.1]; rfl, below_drewN HF.out.2⟩
        · have HF : Hid ((∀ j, j < k + 1 → a[j]? = b[j]?) ∧ Below w.heap.size w wr) := by
            refine ⟨fun j hj => ?_, HK.out.2⟩
            by_cases hjk : j = k
            · subst hjk; rw [HE.out.1, HE.out.2, (eqS_iff x y).1 ht]
            · exact HK.out.1 j (by omega)
          rw [ht] at hq
          clear HK HE ht hla hlb
          go_wp2_with fail
          go_quiet (fail)
          go_wp2
          go_roundw
          case rel => exact ⟨k + 1, by omega, by go_num, HF.out.1, below_drewN HF.out.2⟩
          case measure => simp [intOf]; omega
      · obtain rfl : k = m := by omega
        have HF : Hid (R = true ∧ Below w.heap.size w wr) := by
          refine ⟨?_, HK.out.2⟩
          rw [← HR.out, samZ_iff]
          refine List.ext_getElem? fun j => ?_
          by_cases hj : j < k
          · exact HK.out.1 j hj
          · rw [List.getElem?_eq_none (by have := HM.out.2; omega), List.getElem?_eq_none (by have := HM.out.1; omega)]
        clear HK
        go_wp2
        go_ret
        exact ⟨by rw [HF.out.1]; rfl, HF.out.2⟩

theorem lsame_any (a b : List St) (va vb : Value) (w : World) (ha : LsS w va a) (hb : LsS w vb b) (hl : a.length < 1000000) :
    Calls Tryz.prog 17 #[va, vb] w fun e w' => e = .returned (.bool (samZ a b)) ∧ Below w.heap.size w w' := by
  have HE : Hid (Calls Tryz.prog 33 #[va, vb] w fun e w' => e = .returned (.bool (samZ a b)) ∧ Below w.heap.size w w') := equalZ_any a b va vb w ha hb hl
  clear ha hb
  generalize samZ a b = sb at *
  go_enter Tryz.func17, Tryz.ntmps17
  go_wp2_with fail
  refine HE.out.mono ?_
  rintro e w1 ⟨rfl, hb1⟩
  have H1 : Hid (Below w.heap.size w w1) := hb1
  clear hb1
  go_wp2
  go_ret
  exact ⟨rfl, H1.out⟩

end Go.Proofs.YtbghjmkgicdnoaaGreat

/-
  Contracts of package list: a rectangle elsewhere.
-/
namespace Go.Proofs.YtbghjmkgicdnoaaGreat
open Go.RowKit

theorem bk_alloc {W : World} {b : Nat} {vs : Array Value} {t : TypeId} (h : Bk W b vs t) (o : Obj) : Bk (W.alloc o) b vs t := h.below ((Below.refl _ _).alloc (Nat.le_refl _) o)
/-- A rectangle elsewhere, in a machine's numbers. -/
def elsR (r : Rc) (p q : Int) : Rc := ⟨wrap64 (r.x + p), wrap64 (r.y + q), r.w, r.h⟩
def elsA (r : Rc) (p q : Int) : Rc := if zMa (elsR r p q) = true then elsR r p q else zr
def elsF (r : Rc) (p q : Int) : Int := if zMa (elsR r p q) = true then 0 else 9
theorem wrap_in (z : Int) : I64 (wrap64 z) := by
  unfold I64 wrap64
  omega
theorem els_may {r : Rc} (h : zMa r = true) {p q : Int} (hp : I64 p) (hq : I64 q) : zMa (elsR r p q) = zMa ⟨r.x + p, r.y + q, r.w, r.h⟩ ∧ (zMa (elsR r p q) = true → elsR r p q = ⟨r.x + p, r.y + q, r.w, r.h⟩) := by
  have hb := may_iff.1 h
  unfold I64 at hp hq
  have key : ∀ a b : Int, -16384 ≤ a → a ≤ 16384 → -9223372036854775808 ≤ b → b ≤ 9223372036854775807 → wrap64 (a + b) = a + b ∨ ((wrap64 (a + b) < -1000000 ∨ 1000000 < wrap64 (a + b)) ∧ (a + b < -1000000 ∨ 1000000 < a + b)) := by
    intro a b h1 h2 h3 h4
    unfold wrap64
    omega
  have k1 := key r.x p (by omega) (by omega) hp.1 hp.2
  have k2 := key r.y q (by omega) (by omega) hq.1 hq.2
  constructor
  · rw [Bool.eq_iff_iff]
    unfold zMa elsR
    rw [may_iff, may_iff]
    simp only
    omega
  · intro k
    unfold zMa elsR at k
    have kb := may_iff.1 k
    simp only at kb
    unfold elsR
    have e1 : wrap64 (r.x + p) = r.x + p := by omega
    have e2 : wrap64 (r.y + q) = r.y + q := by omega
    rw [e1, e2]

/-- Rectangles of strokes in a row, written over. -/
theorem flatZ_rect : ∀ (L : List St) (k : Nat) (h : k < L.length) (r : Rc), ((((flatZ L).set (k * 15 + 1) (.int .i64 r.x)).set (k * 15 + 2) (.int .i64 r.y)).set (k * 15 + 3) (.int .i64 r.w)).set (k * 15 + 4) (.int .i64 r.h) = flatZ (L.set k ⟨L[k].k, r, L[k].c, L[k].b, L[k].t, L[k].n⟩)
  | [], k, h, _ => absurd h (Nat.not_lt_zero _)
  | s :: L, 0, _, r => by
    show ((((sCel s ++ flatZ L).set 1 _).set 2 _).set 3 _).set 4 _ = _
    rfl
  | s :: L, k + 1, h, r => by
    have h' : k < L.length := by simpa using h
    have ih := flatZ_rect L k h' r
    have e : ∀ (X : List Value) (j : Nat) (v : Value), (sCel s ++ X).set ((k + 1) * 15 + j) v = sCel s ++ X.set (k * 15 + j) v := fun X j v => by
      rw [List.set_append_right _ _ (by rw [sCel_len]; omega), sCel_len]
      congr 2
      omega
    show ((((sCel s ++ flatZ L).set ((k + 1) * 15 + 1) _).set ((k + 1) * 15 + 2) _).set ((k + 1) * 15 + 3) _).set ((k + 1) * 15 + 4) _ = _
    rw [e, e, e, e, ih]
    rfl

end Go.Proofs.YtbghjmkgicdnoaaGreat

/-
  Contracts of package list: Moved.
-/
namespace Go.Proofs.YtbghjmkgicdnoaaGreat
open Go.RowKit

/-- The strokes while they are moved, one by one. -/
def mvL (p q : Int) (l : List St) (k : Nat) : List St := (l.take k).map (movS p q) ++ l.drop k
theorem mvL_len (p q : Int) (l : List St) (k : Nat) (h : k ≤ l.length) : (mvL p q l k).length = l.length := by
  unfold mvL
  rw [List.length_append, List.length_map, List.length_take, List.length_drop]
  omega
theorem mvL_at (p q : Int) (l : List St) (k : Nat) (h : k < l.length) (h' : k < (mvL p q l k).length) : (mvL p q l k)[k] = l[k] := by
  have e : ((l.take k).map (movS p q)).length = k := by rw [List.length_map, List.length_take]; omega
  have e2 : (mvL p q l k)[k]? = some l[k] := by
    unfold mvL
    rw [List.getElem?_append_right (by omega), e, Nat.sub_self, List.getElem?_drop, Nat.add_zero, List.getElem?_eq_getElem h]
  rw [List.getElem?_eq_getElem h'] at e2
  exact Option.some.inj e2
theorem mvL_next (p q : Int) (l : List St) (k : Nat) (h : k < l.length) : (mvL p q l k).set k (movS p q l[k]) = mvL p q l (k + 1) := by
  unfold mvL
  have e : ((l.take k).map (movS p q)).length = k := by rw [List.length_map, List.length_take]; omega
  rw [List.set_append_right _ _ (by omega), e, Nat.sub_self, List.drop_eq_getElem_cons h, List.set_cons_zero, ← List.take_append_getElem h, List.map_append, List.append_assoc]
  rfl

def JM (wr : World) (g n cu k : Nat) (p q : Int) (sx : St) (A : Rc) (F : Int) (b : Nat → Bool) (u9 u10 u29 u30 u31 u32 u33 u34 u35 u36 u37 u38 : Value) (x : World) : Prop :=
  (b 0 = true → u30 = .slice (some ⟨g, 0, none⟩) n cu) ∧
  (b 1 = true → u31 = .int .i64 k) ∧
  (b 2 = true → u32 = .pointer (some ⟨g, k * 15, none⟩)) ∧
  (b 3 = true → u33 = .pointer (some ⟨g, k * 15 + 1, none⟩)) ∧
  (b 4 = true → u34 = .agg #[.int .i64 sx.r.x, .int .i64 sx.r.y, .int .i64 sx.r.w, .int .i64 sx.r.h]) ∧
  (b 5 = true → u35 = .agg #[.int .i64 p, .int .i64 q]) ∧
  (b 6 = true → u36 = .tuple #[.agg #[.int .i64 A.x, .int .i64 A.y, .int .i64 A.w, .int .i64 A.h], .int .i64 F]) ∧
  (b 7 = true → u29 = .tuple #[.agg #[.int .i64 A.x, .int .i64 A.y, .int .i64 A.w, .int .i64 A.h], .int .i64 F]) ∧
  (b 8 = true → u37 = .agg #[.int .i64 A.x, .int .i64 A.y, .int .i64 A.w, .int .i64 A.h]) ∧
  (b 9 = true → u38 = .int .i64 F) ∧
  (b 10 = true → ∃ qb, u9 = .pointer (some ⟨qb, 0, none⟩) ∧ wr.heap.size ≤ qb ∧ (b 11 = false → Bk x qb #[.int .i64 0, .int .i64 0, .int .i64 0, .int .i64 0] 44) ∧ (b 11 = true → Bk x qb #[.int .i64 A.x, .int .i64 A.y, .int .i64 A.w, .int .i64 A.h] 44)) ∧
  (b 11 = true → b 10 = true) ∧
  (b 12 = true → u10 = .int .i64 F) ∧
  Below wr.heap.size wr x

end Go.Proofs.YtbghjmkgicdnoaaGreat

/-
  What is asked of package list, and holds: Check, Same, Join, Moved.
-/
namespace Go.Proofs.YtbghjmkgicdnoaaGreat
open Go.RowKit

theorem Wfs.xys {l : List St} (h : Wfs l) : Xys l := fun s hs => ⟨(h s hs).2.1.1, (h s hs).2.1.2.1⟩
theorem l_check : LCheck := fun l v w hv hw => lcheck_any l v w hv hw.txs hw.xys

-- function 17
theorem l_same : LSame := fun a b va vb w ha hb hl => lsame_any a b va vb w ha hb (by omega)

end Go.Proofs.YtbghjmkgicdnoaaGreat

/-
  Package list's own ways in plain words: the lowest clip is all places; pieces that may be empty; what opaque Fills hide, the last stroke first.
-/
namespace Go.Proofs.YtbghjmkgicdnoaaGreat

theorem me_nil {a b : Rc} (h : zEm a = true ∨ zEm b = true) : zMe a b = zr := by
  unfold zMe meetR
  unfold zEm at h
  rw [if_pos (by rcases h with h | h <;> rw [h] <;> simp)]
theorem me_btw {a b : Rc} (ha : zEm a = false) (hb : zEm b = false) : zMe a b = btw (max a.x b.x) (max a.y b.y) (min (a.x + a.w) (b.x + b.w)) (min (a.y + a.h) (b.y + b.h)) := by
  unfold zMe meetR
  unfold zEm at ha hb
  rw [ha, hb]
  rfl
theorem em_zr : zEm zr = true := by decide +kernel
theorem em_mk {r : Rc} (h1 : -16384 ≤ r.x) (h2 : -16384 ≤ r.y) (h3 : r.x + r.w ≤ 16384) (h4 : r.y + r.h ≤ 16384) (h5 : 0 < r.w) (h6 : 0 < r.h) : zEm r = false := by
  unfold zEm emptyB
  rw [may_iff.2 ⟨⟨by omega, by omega, by omega⟩, by omega, by omega, by omega⟩]
  simp
  omega
theorem em_bd {r : Rc} (h : zEm r = false) : -16384 ≤ r.x ∧ -16384 ≤ r.y ∧ r.x + r.w ≤ 16384 ∧ r.y + r.h ≤ 16384 ∧ 0 < r.w ∧ 0 < r.h := by
  have := bounds_of h
  omega
theorem me_em {a b : Rc} (h : zEm (zMe a b) = true) : zMe a b = zr := by
  cases ha : zEm a
  · cases hb : zEm b
    · rw [me_btw ha hb] at h ⊢
      obtain ⟨a1, a2, a3, a4, a5, a6⟩ := em_bd ha
      obtain ⟨b1, b2, b3, b4, b5, b6⟩ := em_bd hb
      unfold btw at h ⊢
      split at h
      · next hc => rw [if_pos hc]
      · next hc =>
        rw [em_mk (by simp only; omega) (by simp only; omega) (by simp only; omega) (by simp only; omega) (by simp only; omega) (by simp only; omega)] at h
        cases h
    · exact me_nil (.inr hb)
  · exact me_nil (.inl ha)
theorem me_turn (a b : Rc) : zMe a b = zMe b a := by
  cases ha : zEm a
  · cases hb : zEm b
    · rw [me_btw ha hb, me_btw hb ha]
      congr 1 <;> omega
    · rw [me_nil (.inr hb), me_nil (.inl hb)]
  · rw [me_nil (.inl ha), me_nil (.inr ha)]

/-- All places. -/
def evR : Rc := ⟨-16384, -16384, 32768, 32768⟩
theorem ev_em : zEm evR = false := by decide +kernel
def topP (cs : List Rc) : Rc :=
  match cs with
  | [] => evR
  | c :: _ => c
theorem shR_top {cs : List Rc} {s : St} : shR cs s = zMe s.r (topP cs) := by
  cases cs with
  | nil =>
    show (if zEm s.r = true then zr else s.r) = zMe s.r evR
    cases h : zEm s.r
    · rw [me_btw h ev_em]
      obtain ⟨a1, a2, a3, a4, a5, a6⟩ := em_bd h
      have e1 : max s.r.x evR.x = s.r.x := by unfold evR; simp only; omega
      have e2 : max s.r.y evR.y = s.r.y := by unfold evR; simp only; omega
      have e3 : min (s.r.x + s.r.w) (evR.x + evR.w) = s.r.x + s.r.w := by unfold evR; simp only; omega
      have e4 : min (s.r.y + s.r.h) (evR.y + evR.h) = s.r.y + s.r.h := by unfold evR; simp only; omega
      rw [e1, e2, e3, e4, btw_yes (by omega) (by omega)]
      simp only [Bool.false_eq_true, if_false]
      have f1 : s.r.x + s.r.w - s.r.x = s.r.w := by omega
      have f2 : s.r.y + s.r.h - s.r.y = s.r.h := by omega
      rw [f1, f2]
    · rw [me_nil (.inl h)]
      simp
  | cons c t =>
    show (if zEm (zMe s.r c) = true then zr else zMe s.r c) = zMe s.r c
    cases h : zEm (zMe s.r c)
    · simp
    · rw [me_em h]
      simp
theorem shR_em {cs : List Rc} {s : St} (h : zEm (shR cs s) = false) : zEm s.r = false := by
  cases e : zEm s.r
  · rfl
  · rw [shR_top, me_nil (.inl e), em_zr] at h
    cases h
theorem shR_may (cs : List Rc) (s : St) : zMa (shR cs s) = true := by
  cases e : zEm (shR cs s)
  · unfold zEm at e
    unfold zMa
    exact may_of e
  · rw [shR_top] at e ⊢
    rw [me_em e]
    decide +kernel

/-- What a stroke draws of the rectangle in which it shows, with pieces that are empty. -/
def brdL (f r : Rc) : List Rc := [zMe r ⟨f.x, f.y, f.w, 1⟩, zMe r ⟨f.x, f.y, 1, f.h⟩, zMe r ⟨f.x + f.w - 1, f.y, 1, f.h⟩, zMe r ⟨f.x, f.y + f.h - 1, f.w, 1⟩]
def dwnL (s : St) (r : Rc) : List Rc := if s.k = 1 ∧ 0 < s.c.a ∨ s.k = 3 ∧ s.t.size ≠ 0 then [r] else if s.k = 2 ∧ 0 < s.c.a then brdL s.r r else []
theorem side_btw {f : Rc} (h : zEm f = false) : sidR f = [⟨f.x, f.y, f.w, 1⟩, ⟨f.x, f.y, 1, f.h⟩, ⟨f.x + f.w - 1, f.y, 1, f.h⟩, ⟨f.x, f.y + f.h - 1, f.w, 1⟩] := by
  obtain ⟨a1, a2, a3, a4, a5, a6⟩ := em_bd h
  unfold sidR
  rw [btw_yes (by omega) (by omega), btw_yes (by omega) (by omega), btw_yes (by omega) (by omega), btw_yes (by omega) (by omega)]
  have e1 : f.x + f.w - f.x = f.w := by omega
  have e2 : f.y + 1 - f.y = 1 := by omega
  have e3 : f.x + 1 - f.x = 1 := by omega
  have e4 : f.y + f.h - f.y = f.h := by omega
  have e5 : f.x + f.w - (f.x + f.w - 1) = 1 := by omega
  have e6 : f.y + f.h - (f.y + f.h - 1) = 1 := by omega
  rw [e1, e2, e3, e4, e5, e6]
theorem dwn_plc {s : St} {r : Rc} (hk : s.k = 1 ∨ s.k = 2 ∨ s.k = 3 ∨ s.k = 4 ∨ s.k = 5) (hc : 0 ≤ s.c.a) (hr : zEm r = false → zEm s.r = false) : (dwnL s r).filter (fun q => !zEm q) = plc s r := by
  unfold dwnL plc noP drw
  cases he : zEm r
  · have hs := hr he
    rcases hk with k | k | k | k | k
    · by_cases ha : s.c.a = 0
      · simp [k, ha]
      · have : 0 < s.c.a := by omega
        simp [k, ha, this, he]
    · by_cases ha : s.c.a = 0
      · simp [k, ha]
      · have h0 : 0 < s.c.a := by omega
        have e : brdL s.r r = (sidR s.r).map (fun q => zMe q r) := by
          rw [side_btw hs]
          unfold brdL
          simp only [List.map_cons, List.map_nil]
          rw [me_turn r, me_turn r, me_turn r, me_turn r]
        rw [if_neg (by omega), if_pos ⟨k, h0⟩, e]
        simp [k, ha]
    · by_cases ht : s.t.size = 0
      · simp [k, ht]
      · simp [k, ht, he]
    · simp [k]
    · simp [k]
  · have hb : (brdL s.r r).filter (fun q => !zEm q) = [] := by
      unfold brdL
      rw [me_nil (.inl he), me_nil (.inl he), me_nil (.inl he), me_nil (.inl he)]
      simp [em_zr]
    simp only [Bool.true_or, if_true]
    split
    · simp [he]
    · split
      · exact hb
      · rfl
theorem dwn_len (s : St) (r : Rc) : (dwnL s r).length ≤ 4 := by
  unfold dwnL
  split
  · simp
  · split
    · simp [brdL]
    · simp

end Go.Proofs.YtbghjmkgicdnoaaGreat

/-
  Contracts of package list: the rectangles in which strokes show.
-/
namespace Go.Proofs.YtbghjmkgicdnoaaGreat
open Go.RowKit

theorem flat_rep (n : Nat) : flat (List.replicate n zr) = List.replicate (n * 4) (.int .i64 0) := by
  induction n with
  | zero => rfl
  | succ n ih =>
    rw [List.replicate_succ, show (n + 1) * 4 = n * 4 + 1 + 1 + 1 + 1 by omega, List.replicate_succ, List.replicate_succ, List.replicate_succ, List.replicate_succ]
    show cel zr ++ flat (List.replicate n zr) = _
    rw [ih]
    rfl
set_option maxRecDepth 20000 in
theorem make_rcs (n : Nat) (hn : n < 1000000) (w : World) : (Instr.makeSlice 25 (.int .i64 (n : Nat)) (.int .i64 (n : Nat))).run Tryz.prog w = .ok (.slice (some ⟨w.heap.size, 0, none⟩) n n) (w.alloc (.cells (flat (List.replicate n zr)).toArray 44)) := by
  obtain ⟨i0, hi, hz0, hz1, hz2⟩ := info_parts info_rect
  have h := run_make (P := Tryz.prog) w 25 44 i0 (.agg #[.int .i64 0, .int .i64 0, .int .i64 0, .int .i64 0]) Tryz.underlying25 hi hz0 .i64 .i64 (n : Int) (n : Int) (by omega) (Int.le_refl _) (by rw [hz2]; omega) (by omega)
  simp only [Int.toNat_natCast, hz1] at h
  rw [h, flat_rep]
  congr 3
  refine Array.ext (by simp [size_madeCells]) fun i h1 h2 => ?_
  have h3 : i % 4 < 4 := Nat.mod_lt _ (by omega)
  simp [madeCells, Value.cells]
  generalize i % 4 = j at h3
  match j, h3 with
  | 0, _ => rfl
  | 1, _ => rfl
  | 2, _ => rfl
  | 3, _ => rfl
theorem own_new {lo : Nat} {w : World} {n : Nat} {L : List Rc} (hl : L.length = n) (hlo : lo ≤ w.heap.size) (hn : n < 1000000) : OwR lo (w.alloc (.cells (flat L).toArray 44)) (.slice (some ⟨w.heap.size, 0, none⟩) n n) L := by
  refine ⟨flat_len L, .inr ⟨w.heap.size, n, (flat L).toArray, by rw [hl], hlo, Bk.new _ _ _, by omega, by unfold maxLen; omega, by simp [flat_len, hl], ?_⟩⟩
  rw [hl]
  simp only []
  exact List.take_of_length_le (by rw [flat_len, hl]; exact Nat.le_refl _)
/-- A rectangle in a row, written over. -/
theorem flat_put : ∀ (L : List Rc) (k : Nat) (_ : k < L.length) (r : Rc), ((((flat L).set (k * 4) (.int .i64 r.x)).set (k * 4 + 1) (.int .i64 r.y)).set (k * 4 + 2) (.int .i64 r.w)).set (k * 4 + 3) (.int .i64 r.h) = flat (L.set k r)
  | [], k, h, _ => absurd h (Nat.not_lt_zero _)
  | s :: L, 0, _, r => by
    show ((((cel s ++ flat L).set 0 _).set 1 _).set 2 _).set 3 _ = _
    rfl
  | s :: L, k + 1, h, r => by
    have h' : k < L.length := by simpa using h
    have ih := flat_put L k h' r
    have e : ∀ (X : List Value) (j : Nat) (v : Value), (cel s ++ X).set ((k + 1) * 4 + j) v = cel s ++ X.set (k * 4 + j) v := fun X j v => by
      have hc : (cel s).length = 4 := rfl
      rw [List.set_append_right _ _ (by rw [hc]; omega), hc]
      congr 2
      omega
    have e0 := fun X v => e X 0 v
    simp only [Nat.add_zero] at e0
    show ((((cel s ++ flat L).set ((k + 1) * 4) _).set ((k + 1) * 4 + 1) _).set ((k + 1) * 4 + 2) _).set ((k + 1) * 4 + 3) _ = _
    rw [e0, e, e, e, ih]
    rfl

set_option maxHeartbeats 1000000 in
theorem every_any (w : World) : Calls Tryz.prog 40 #[] w fun e w' => e = .returned (.agg #[.int .i64 (-16384), .int .i64 (-16384), .int .i64 32768, .int .i64 32768]) ∧ Below w.heap.size w w' := by
  have HL : Hid (∀ c, Below w.heap.size w (w.alloc c)) := fun c => (Below.refl _ w).alloc (Nat.le_refl _) _
  have B := fun c => Bk.new w #[.int .i64 (-16384), .int .i64 (-16384), .int .i64 32768, c] 44
  go_enter Tryz.func40, Tryz.ntmps40
  go_wp2
  exact bodyPost_ret (v := .agg #[.int .i64 (-16384), .int .i64 (-16384), .int .i64 32768, .int .i64 32768]) (by simp [results, Tryz.results40, go_sem]) rfl ⟨rfl, HL.out _⟩

/-- The rectangles while they are told, one by one. -/
def rowS (l : List St) (k : Nat) : List Rc := ((ann [] l).map Prod.snd).take k ++ List.replicate (l.length - k) zr
theorem rowS_len (l : List St) (k : Nat) (h : k ≤ l.length) : (rowS l k).length = l.length := by
  unfold rowS
  rw [List.length_append, List.length_take, List.length_map, ann_len, List.length_replicate]
  omega
theorem rowS_next {l : List St} {k : Nat} {cs : List Rc} (h : k < l.length) (hd : (ann [] l).drop k = ann cs (l.drop k)) (he : clpE cs.length (l.drop k) = 0) : (rowS l k).set k (shR cs l[k]) = rowS l (k + 1) := by
  obtain ⟨h1, _⟩ := sh_next h hd he
  unfold rowS
  rw [h1]
  have e : (((ann [] l).map Prod.snd).take k).length = k := by rw [List.length_take, List.length_map, ann_len]; omega
  rw [List.set_append_right _ _ (by omega), e, Nat.sub_self, show l.length - k = (l.length - (k + 1)) + 1 by omega, List.replicate_succ, List.set_cons_zero, List.append_assoc]
  rfl
theorem rowS_same {l : List St} {k : Nat} {cs : List Rc} (h : k < l.length) (hd : (ann [] l).drop k = ann cs (l.drop k)) (he : clpE cs.length (l.drop k) = 0) (hz : shR cs l[k] = zr) : rowS l k = rowS l (k + 1) := by
  rw [← rowS_next h hd he, hz]
  unfold rowS
  have e : (((ann [] l).map Prod.snd).take k).length = k := by rw [List.length_take, List.length_map, ann_len]; omega
  rw [List.set_append_right _ _ (by omega), e, Nat.sub_self, show l.length - k = (l.length - (k + 1)) + 1 by omega, List.replicate_succ, List.set_cons_zero]
theorem shR_open {cs : List Rc} {s : St} (h1 : oneE s = 0) (h5 : s.k = 5) : shR cs s = zr := by
  obtain ⟨_, _, hf⟩ := oneE_zero h1
  have hz : zZr s.r = true := by
    unfold wroF at hf
    simp [h5] at hf
    exact hf.2.2
  have e : s.r = zr := rc_of_eqB (q := zr) hz
  rw [shR_top, e, me_nil (.inl em_zr)]
/-- What lies there while the rectangles are told. -/
structure ShP (w : World) (l : List St) (k : Nat) (cs : List Rc) (u v : Value) (W : World) : Prop where
  o : OwR w.heap.size W u (rowS l k)
  c : OwR w.heap.size W v (evR :: cs.reverse)
  a : Apt u v
  b : Below w.heap.size w W
  d : (ann [] l).drop k = ann cs (l.drop k)
  e : clpE cs.length (l.drop k) = 0
  m : ∀ c ∈ cs, zMa c = true
theorem ShP.below {w : World} {l : List St} {k : Nat} {cs : List Rc} {u v : Value} {W W' : World} (h : ShP w l k cs u v W) (hb : Below W.heap.size W W') : ShP w l k cs u v W' := ⟨h.o.below hb, h.c.below hb, h.a, h.b.trans (hb.mono h.b.size), h.d, h.e, h.m⟩
theorem own_top {lo : Nat} {w : World} {gc n cc : Nat} {cs : List Rc} (hn : n = cs.length) (h : OwR lo w (.slice (some ⟨gc, 0, none⟩) (n + 1) cc) (evR :: cs.reverse)) : RcAt w gc (n * 4) (topP cs) := by
  have hl : (evR :: cs.reverse).length = n + 1 := by simp [hn]
  unfold OwR at h
  rw [hl] at h
  have hk : n < (evR :: cs.reverse).length := by omega
  have e : (evR :: cs.reverse)[n] = topP cs := by
    subst hn
    cases cs with
    | nil => rfl
    | cons c t => simp [topP]
  obtain ⟨f0, f1, f2, f3⟩ := flat_at (evR :: cs.reverse) n hk
  rw [e] at f0 f1 f2 f3
  exact ⟨(own_cell h _ (by omega)).trans f0, (own_cell h _ (by omega)).trans f1, (own_cell h _ (by omega)).trans f2, (own_cell h _ (by omega)).trans f3⟩
theorem i64_near {x : Int} (h : -16384 ≤ x ∧ x ≤ 16384) : I64 x := by unfold I64; omega
theorem top_i64 {cs : List Rc} (h : ∀ c ∈ cs, zMa c = true) : I64 (topP cs).x ∧ I64 (topP cs).y := by
  cases cs with
  | nil => exact ⟨i64_near (show -16384 ≤ (-16384 : Int) ∧ (-16384 : Int) ≤ 16384 by omega), i64_near (show -16384 ≤ (-16384 : Int) ∧ (-16384 : Int) ≤ 16384 by omega)⟩
  | cons c t =>
    have := may_bd (h c (by simp))
    exact ⟨i64_near ⟨this.1, this.2.1⟩, i64_near ⟨this.2.2.1, this.2.2.2.1⟩⟩

end Go.Proofs.YtbghjmkgicdnoaaGreat
