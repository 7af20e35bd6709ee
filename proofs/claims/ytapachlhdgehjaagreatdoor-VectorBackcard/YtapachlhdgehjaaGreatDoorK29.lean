/-
  Texts of this claim, one behind the other: what each is about stands ahead of it.
-/
import Derived.Test.YtapachlhdgehjaaGreatDoorK22
import Derived.Test.YtapachlhdgehjaaGreatDoorK7
import Derived.Test.YtapachlhdgehjaaGreatDoorK3
import Derived.Test.YtapachlhdgehjaaGreatDoorK0
/-
  The statements' own comparing of lists, of screens (stage 16).
-/
namespace Go.Proofs.YtapachlhdgehjaaGreatDoor
open Go.RowKit

set_option maxRecDepth 20000 in
set_option maxHeartbeats 4000000 in
theorem same16_any (a b : List St) (va vb : Value) (w : World) (ha : LsS w va a) (hb : LsS w vb b) (hl : a.length < 1000000) :
    Calls Tryz.prog 14 #[va, vb] w fun e w' => e = .returned (.bool (samZ a b)) ∧ Below w.heap.size w w' := by
  obtain ⟨oa, ca, rfl, hca, hga⟩ := ha
  obtain ⟨ob, cb, rfl, hcb, hgb⟩ := hb
  by_cases hn : a.length = b.length
  case neg =>
    have hn' : ((a.length : Int) == (b.length : Int)) = false := beq_eq_false_iff_ne.2 (by omega)
    rw [samZ_no (fun h => hn (by rw [h]))]
    clear hga hgb hn
    go_enter Tryz.func14, Tryz.ntmps14
    go_wp2
    go_ret
    exact ⟨rfl, Below.refl _ _⟩
  case pos =>
    have HA : Hid (0 < a.length → ∃ g o, oa = some ⟨g, o, none⟩ ∧ g < w.heap.size ∧ ∀ i (h : i < a.length), StAt w g (o + i * 15) a[i]) := hga
    have HB : Hid (0 < b.length → ∃ g o, ob = some ⟨g, o, none⟩ ∧ g < w.heap.size ∧ ∀ i (h : i < b.length), StAt w g (o + i * 15) b[i]) := hgb
    obtain ⟨R, HR⟩ : ∃ R, Hid (samZ a b = R) := ⟨_, rfl⟩
    rw [HR.out]
    have HN : Hid (a.length = b.length) := hn
    obtain ⟨m, hm⟩ : ∃ m, m = b.length := ⟨_, rfl⟩
    have hm2 : a.length = m := by rw [hm]; exact hn
    have HM : Hid (b.length = m ∧ a.length = m) := ⟨hm.symm, hm2⟩
    rw [← hm]
    rw [hm2]
    rw [hm2] at hl
    clear hga hgb hn hm hm2 hca hcb
    go_enter Tryz.func14, Tryz.ntmps14
    go_wp2_with fail
    go_loopw [5] (fun i wr => ∃ k : Nat, k ≤ m ∧ i = .int .i64 k ∧ Hid ((∀ j, j < k → a[j]? = b[j]?) ∧ Below w.heap.size w wr)) (fun i _ => m - (intOf i).toNat)
    case atStart => exact ⟨0, Nat.zero_le _, rfl, fun j hj => absurd hj (Nat.not_lt_zero _), Below.refl _ _⟩
    case round =>
      obtain ⟨k, hk, rfl, HK⟩ := hrel
      by_cases hlt : k < m
      · have ik : (k : Int) < m := by omega
        have hla : k < a.length := by rw [HM.out.2]; exact hlt
        have hlb : k < b.length := by rw [HM.out.1]; exact hlt
        obtain ⟨g, o, rfl, hg, hat⟩ := HA.out (by omega)
        obtain ⟨g', o', rfl, hg', hat'⟩ := HB.out (by omega)
        have hx := (hat k hla).kept (w' := wr) fun j => HK.out.2.cell (p := ⟨g, j, none⟩) hg
        have hy := (hat' k hlb).kept (w' := wr) fun j => HK.out.2.cell (p := ⟨g', j, none⟩) hg'
        have HE : Hid (a[k]? = some a[k] ∧ b[k]? = some b[k]) := ⟨List.getElem?_eq_getElem hla, List.getElem?_eq_getElem hlb⟩
        clear hat hat'
        generalize a[k] = x at *
        generalize b[k] = y at *
        obtain ⟨x0, x1, x2, x3, x4, x5, x6, x7, x8, x9, x10, x11, x12, x13, x14⟩ := hx
        obtain ⟨y0, y1, y2, y3, y4, y5, y6, y7, y8, y9, y10, y11, y12, y13, y14⟩ := hy
        have hq := neq_stroke x y
        cases ht : eqS x y
        · have HF : Hid (R = false ∧ Below w.heap.size w wr) := by
            refine ⟨?_, HK.out.2⟩
            rw [← HR.out]
            refine samZ_no fun e => ?_
            have h1 := HE.out.1
            rw [e, HE.out.2] at h1
            injection h1 with h1
            rw [h1, eqS_self] at ht
            cases ht
          rw [ht] at hq
          clear HK HE ht hla hlb
          go_wp2_with fail
          go_quiet (fail)
          go_wp2
          go_ret
          exact ⟨by rw [HF.out.1]; rfl, below_drewN HF.out.2⟩
        · have HF : Hid ((∀ j, j < k + 1 → a[j]? = b[j]?) ∧ Below w.heap.size w wr) := by
            refine ⟨fun j hj => ?_, HK.out.2⟩
            by_cases hjk : j = k
            · subst hjk; rw [HE.out.1, HE.out.2, (eqS_iff x y).1 ht]
            · exact HK.out.1 j (by omega)
          rw [ht] at hq
          clear HK HE ht hla hlb
          go_wp2_with fail
          go_quiet (fail)
          go_wp2
          go_roundw
          case rel => exact ⟨k + 1, by omega, by go_num, HF.out.1, below_drewN HF.out.2⟩
          case measure => simp [intOf]; omega
      · obtain rfl : k = m := by omega
        have HF : Hid (R = true ∧ Below w.heap.size w wr) := by
          refine ⟨?_, HK.out.2⟩
          rw [← HR.out, samZ_iff]
          refine List.ext_getElem? fun j => ?_
          by_cases hj : j < k
          · exact HK.out.1 j hj
          · rw [List.getElem?_eq_none (by have := HM.out.2; omega), List.getElem?_eq_none (by have := HM.out.1; omega)]
        clear HK
        go_wp2
        go_ret
        exact ⟨by rw [HF.out.1]; rfl, HF.out.2⟩

theorem neq_cellS (x : Ce) (w : World) : (binOp .neq 65 (Value.agg #[.int .i32 x.r, .int .u8 x.c.r, .int .u8 x.c.g, .int .u8 x.c.b, .int .u8 x.c.a, .int .u8 x.b.r, .int .u8 x.b.g, .int .u8 x.b.b, .int .u8 x.b.a, .bool x.wd, .bool x.tl]) (Value.agg #[.int .i32 x.r, .int .u8 x.c.r, .int .u8 x.c.g, .int .u8 x.c.b, .int .u8 x.c.a, .int .u8 x.b.r, .int .u8 x.b.g, .int .u8 x.b.b, .int .u8 x.b.a, .bool x.wd, .bool x.tl])).run Tryz.prog w = .ok (.bool false) w := by
  simp [go_sem]

set_option maxRecDepth 20000 in
set_option maxHeartbeats 4000000 in
theorem sameScr_any (p q : Int) (L : List Ce) (va vb : Value) (w : World) (ha : LsC w va L) (hb : LsC w vb L) (hl : L.length < 1000000) :
    Calls Tryz.prog 18 #[.agg #[.int .i64 p, .int .i64 q, va], .agg #[.int .i64 p, .int .i64 q, vb]] w fun e w' => e = .returned (.bool true) ∧ Below w.heap.size w w' := by
  obtain ⟨oa, ca, rfl, hca, hga⟩ := ha
  obtain ⟨ob, cb, rfl, hcb, hgb⟩ := hb
  obtain ⟨m, hm⟩ : ∃ m, m = L.length := ⟨_, rfl⟩
  have HA : Hid (0 < L.length → ∃ g o, oa = some ⟨g, o, none⟩ ∧ g < w.heap.size ∧ ∀ i (h : i < L.length), CeAt w g (o + i * 11) L[i]) := hga
  have HB : Hid (0 < L.length → ∃ g o, ob = some ⟨g, o, none⟩ ∧ g < w.heap.size ∧ ∀ i (h : i < L.length), CeAt w g (o + i * 11) L[i]) := hgb
  have HM : Hid (L.length = m) := hm.symm
  rw [← hm]
  rw [← hm] at hl
  obtain ⟨W2, hW2⟩ : ∃ W2, W2 = (w.alloc (.cells #[.int .i64 p, .int .i64 q, .slice oa m ca] 26)).alloc (.cells #[.int .i64 p, .int .i64 q, .slice ob m cb] 26) := ⟨_, rfl⟩
  have H2 : Hid (Bk W2 w.heap.size #[.int .i64 p, .int .i64 q, .slice oa m ca] 26 ∧ Bk W2 (w.heap.size + 1) #[.int .i64 p, .int .i64 q, .slice ob m cb] 26 ∧ Below w.heap.size w W2) := by
    have k1 := Bk.new w #[.int .i64 p, .int .i64 q, .slice oa m ca] 26
    have k2 := Bk.new (w.alloc (.cells #[.int .i64 p, .int .i64 q, .slice oa m ca] 26)) #[.int .i64 p, .int .i64 q, .slice ob m cb] 26
    simp only [World.size_alloc] at k2
    rw [hW2]
    exact ⟨k1.below ((Below.refl _ _).alloc (Nat.le_refl _) _), k2, ((Below.refl _ w).alloc (Nat.le_refl _) _).alloc (by simp) _⟩
  clear hga hgb hm hca hcb
  go_enter Tryz.func18, Tryz.ntmps18
  go_wp2_with fail
  rw [← hW2]
  clear hW2
  go_loopw [5] (fun i wr => ∃ k : Nat, k ≤ m ∧ i = .int .i64 k ∧ Hid (Below W2.heap.size W2 wr)) (fun i _ => m - (intOf i).toNat)
  case atStart => exact ⟨0, Nat.zero_le _, rfl, Below.refl _ _⟩
  case round =>
    obtain ⟨k, hk, rfl, HK⟩ := hrel
    have c0 := (H2.out.1.below HK.out).cell 2
    have c1 := (H2.out.2.1.below HK.out).cell 2
    simp only [List.getElem?_toArray, List.getElem?_cons_zero, List.getElem?_cons_succ] at c0 c1
    have HW : Hid (Below w.heap.size w wr) := H2.out.2.2.trans (HK.out.mono H2.out.2.2.size)
    by_cases hlt : k < m
    · have ik : (k : Int) < m := by omega
      have hla : k < L.length := by rw [HM.out]; exact hlt
      obtain ⟨g, o, rfl, hg, hat⟩ := HA.out (by omega)
      obtain ⟨g', o', rfl, hg', hat'⟩ := HB.out (by omega)
      have hx := (hat k hla).kept (w' := wr) fun j => HW.out.cell (p := ⟨g, j, none⟩) hg
      have hy := (hat' k hla).kept (w' := wr) fun j => HW.out.cell (p := ⟨g', j, none⟩) hg'
      clear hat hat'
      generalize L[k] = x at *
      obtain ⟨x0, x1, x2, x3, x4, x5, x6, x7, x8, x9, x10⟩ := hx
      obtain ⟨y0, y1, y2, y3, y4, y5, y6, y7, y8, y9, y10⟩ := hy
      have hq := neq_cellS x
      have HF : Hid (Below W2.heap.size W2 wr) := HK.out
      clear HK hla HW
      go_wp2_with fail
      go_quiet (fail)
      go_wp2
      go_roundw
      case rel => exact ⟨k + 1, by omega, by go_num, below_drewN HF.out⟩
      case measure => simp [intOf]; omega
    · obtain rfl : k = m := by omega
      go_wp2
      go_ret
      exact ⟨rfl, HW.out⟩

end Go.Proofs.YtapachlhdgehjaaGreatDoor

/-
  Lists of strokes laid behind no list; a mark behind a list of one's own.
-/
namespace Go.Proofs.YtapachlhdgehjaaGreatDoor
open Go.RowKit

theorem lss_src {w : World} {g o : Nat} {M : List St} (h : ∀ i (h : i < M.length), StAt w g (o + i * 15) M[i]) : ∀ (j : Nat) (u : Value), (flatZ M)[j]? = some u → w.cell? ((⟨g, o, none⟩ : Addr).add j) = some u := by
  intro j u hj
  have hl : j < (flatZ M).length := (List.getElem?_eq_some_iff.1 hj).1
  rw [flatZ_len] at hl
  have hq : j / 15 < M.length := by omega
  have h1 := flatZ_at M (j / 15) hq (j % 15) (Nat.mod_lt _ (by decide))
  have h2 := stat_iff.1 (h (j / 15) hq) (j % 15) (Nat.mod_lt _ (by decide))
  rw [show j / 15 * 15 + j % 15 = j by omega, hj] at h1
  rw [← h1, Nat.add_assoc, show j / 15 * 15 + j % 15 = j by omega] at h2
  have e : (⟨g, o, none⟩ : Addr).add j = ⟨g, o + j, none⟩ := by unfold Addr.add; split <;> simp_all
  rw [e]
  exact h2
end Go.Proofs.YtapachlhdgehjaaGreatDoor
