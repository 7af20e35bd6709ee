/-
  Texts of this claim, one behind the other: what each is about stands ahead of it.
-/
import Derived.Test.YtapachlhdgehjaaGreatDoorK45
import Derived.Test.YtapachlhdgehjaaGreatDoorK46
import Derived.Test.YtapachlhdgehjaaGreatDoorK18
/-
  What package list calls of Go's library: slices.Grow, Concat, Clone of strokes.
-/
namespace Go.Proofs.YtapachlhdgehjaaGreatDoor
open Go.RowKit Go.Shelf

theorem growZ_any (n : Nat) (w : World) (hn : n ≤ 1000000) :
    Calls Tryz.prog 64 #[.slice none 0 0, .int .i64 n] w fun e w' => ∃ u, e = .returned u ∧ w'.ownsRow w.heap.size 55 15 u 0 [] ∧ Below w.heap.size w w' := by
  by_cases h0 : n = 0
  · subst h0
    have h := Any8.slices_Grow_room Tryz.growS none 0 0 0 w (Nat.le_refl _) (by omega) (by omega) (by omega)
    change Calls Tryz.prog 64 _ _ _ at h
    exact h.mono fun e w' ⟨he, hw⟩ => ⟨_, he, World.ownsRow_nil _ _ _ _, by rw [hw]; exact Below.refl _ _⟩
  · obtain ⟨i0, hi, hz0, hz1, hz2⟩ := info_parts info_strokeZ
    have h := Any8.slices_Grow_grow Tryz.growS i0 (.agg #[.int .u8 0, .int .i64 0, .int .i64 0, .int .i64 0, .int .i64 0, .int .u8 0, .int .u8 0, .int .u8 0, .int .u8 0, .int .u8 0, .int .u8 0, .int .u8 0, .int .u8 0, .string ByteArray.empty, .int .i64 0]) hi hz0 (by rw [hz1]; decide) none 0 0 n [] w (Nat.le_refl _) (by omega) (by rw [hz2]; omega) (by omega) (by simp) (fun _ => rfl) (fun a h => by cases h)
    change Calls Tryz.prog 64 _ _ _ at h
    refine h.mono fun e w' ⟨he, hw⟩ => ⟨_, he, ?_, ?_⟩
    · have hle := grownCap_le_maxLen w (0 + n) 0 55 (by unfold maxLen; omega)
      refine ⟨rfl, .inr ⟨w.heap.size, _, ([] : List Value).toArray ++ Builtin.zeroCells (Value.cells (.agg #[.int .u8 0, .int .i64 0, .int .i64 0, .int .i64 0, .int .i64 0, .int .u8 0, .int .u8 0, .int .u8 0, .int .u8 0, .int .u8 0, .int .u8 0, .int .u8 0, .int .u8 0, .string ByteArray.empty, .int .i64 0])) (0 + n - 0) ++ Builtin.zeroCells (Value.cells (.agg #[.int .u8 0, .int .i64 0, .int .i64 0, .int .i64 0, .int .i64 0, .int .u8 0, .int .u8 0, .int .u8 0, .int .u8 0, .int .u8 0, .int .u8 0, .int .u8 0, .int .u8 0, .string ByteArray.empty, .int .i64 0])) (grownCap w (0 + n) 0 55 - (0 + n)), rfl, Nat.le_refl _, ?_, Nat.zero_le _, hle, ?_, by simp⟩⟩
      · rw [hw]
        exact Bk.new w.drew _ _
      · have hzc : (Value.cells (.agg #[.int .u8 0, .int .i64 0, .int .i64 0, .int .i64 0, .int .i64 0, .int .u8 0, .int .u8 0, .int .u8 0, .int .u8 0, .int .u8 0, .int .u8 0, .int .u8 0, .int .u8 0, .string ByteArray.empty, .int .i64 0])).size = 15 := rfl
        rw [Array.size_append, Array.size_append, size_zeroCells, size_zeroCells, hzc]
        simp
        have : n ≤ grownCap w n 0 55 := grownCap_ge w n 0 55
        show n * 15 + (grownCap w n 0 55 - n) * 15 = grownCap w n 0 55 * 15
        omega
    · rw [hw]
      exact ((Below.refl _ w).drew).alloc (Nat.le_refl _) _

def RowsS (w : World) (v : Value) (Ls : List (List St)) : Prop := ∃ oa cap, v = .slice oa Ls.length cap ∧ Ls.length ≤ cap ∧ (0 < Ls.length → ∃ hb ho, oa = some ⟨hb, ho, none⟩ ∧ hb < w.heap.size ∧ ∀ k (h : k < Ls.length), ∃ u, w.cell? ⟨hb, ho + k, none⟩ = some u ∧ LsS w u Ls[k] ∧ NoNil u)
set_option maxRecDepth 10000 in
set_option maxHeartbeats 4000000 in
theorem concS_any (Ls : List (List St)) (v : Value) (w : World) (hv : RowsS w v Ls) (hn : Ls.length ≤ 20000) (ht : Ls.flatten.length ≤ 100000) :
    Calls Tryz.prog 32 #[v] w fun e w' => ∃ u, e = .returned u ∧ OwS w.heap.size w' u Ls.flatten ∧ Below w.heap.size w w' := by
  obtain ⟨i0, hi, hz0, hz1, hz2⟩ := info_parts info_strokeZ
  obtain ⟨oa, cap, rfl, hcap, hg⟩ := hv
  have HP : Hid (∀ k, k < Ls.length → ∃ (M : List St) (oM : Option Addr) (cM hb ho : Nat), oa = some ⟨hb, ho, none⟩ ∧ hb < w.heap.size ∧ w.cell? ⟨hb, ho + k, none⟩ = some (.slice oM M.length cM) ∧ LsS w (.slice oM M.length cM) M ∧ NoNil (.slice oM M.length cM) ∧ M.length ≤ 100000 ∧ (Ls.take (k + 1)).flatten = (Ls.take k).flatten ++ M ∧ (Ls.take k).flatten.length + M.length ≤ 100000) := by
    intro k hk
    obtain ⟨hb, ho, e, hlt, hat⟩ := hg (by omega)
    obtain ⟨u, hc, hl, hnn⟩ := hat k hk
    obtain ⟨oM, cM, rfl, hcM, hgM⟩ := id hl
    have e1 : (Ls.take (k + 1)).flatten = (Ls.take k).flatten ++ Ls[k] := by
      rw [← List.take_append_getElem hk, List.flatten_append]; simp
    have e2 : (Ls.take k).flatten.length + Ls[k].length ≤ 100000 := by
      rw [← List.length_append, ← e1]
      have : Ls.flatten = (Ls.take (k + 1)).flatten ++ (Ls.drop (k + 1)).flatten := by rw [← List.flatten_append, List.take_append_drop]
      rw [this, List.length_append] at ht
      omega
    exact ⟨Ls[k], oM, cM, hb, ho, e, hlt, hc, hl, hnn, by omega, e1, e2⟩
  have HEnd : Hid ((Ls.take Ls.length).flatten = Ls.flatten) := by unfold Hid; rw [List.take_length]
  have HGr : Hid (∀ n : Nat, n ≤ 1000000 → Calls Tryz.prog 64 #[.slice none 0 0, .int .i64 n] w fun e w' => ∃ u, e = .returned u ∧ w'.ownsRow w.heap.size 55 15 u 0 [] ∧ Below w.heap.size w w') := fun n h => growZ_any n w h
  obtain ⟨N, hN⟩ : ∃ N, N = Ls.length := ⟨_, rfl⟩
  have HN : Hid (N = Ls.length) := hN
  rw [← hN] at hcap hn HP HEnd ⊢
  clear hg hN
  go_enter Tryz.func32, Tryz.ntmps32
  go_wp2_with fail
  go_loopw [3, 11] (fun s i wr => ∃ (k n : Nat), k ≤ N ∧ i = .int .i64 k ∧ s = .int .i64 n ∧ n ≤ 100000 ∧ Hid (n = ((Ls.take k).flatten).length) ∧ wr = w) (fun _ i _ => N - (intOf i).toNat)
  case atStart => exact ⟨0, 0, by omega, rfl, rfl, by omega, by unfold Hid; simp, rfl⟩
  case round =>
    obtain ⟨k, n, hk, rfl, rfl, hn1, HNn, rfl⟩ := hrel
    by_cases hlt : k < N
    · have ik : (k : Int) < N := by omega
      obtain ⟨M, oM, cM, hb, ho, rfl, hlb, hcell, _, _, hMl, hacc, hal⟩ := HP.out k hlt
      have hnm : n + M.length ≤ 100000 := by rw [HNn.out]; exact hal
      have HRel : Hid (∃ (k' n' : Nat), k' ≤ N ∧ Value.int .i64 ((k : Int) + 1) = .int .i64 k' ∧ Value.int .i64 ((n : Int) + (M.length : Int)) = .int .i64 n' ∧ n' ≤ 100000 ∧ Hid (n' = ((Ls.take k').flatten).length) ∧ True) := ⟨k + 1, n + M.length, by omega, by go_num, by rw [Int.natCast_add], hnm, by unfold Hid; rw [hacc, List.length_append, HNn.out], trivial⟩
      clear hacc hal HNn
      go_wp2
      go_roundw
      case rel => exact HRel.out
      case measure => simp [intOf]; omega
    · obtain rfl : k = N := by omega
      have ik : ¬ (k : Int) < k := by omega
      have HG3 : Hid (Calls Tryz.prog 64 #[.slice none 0 0, .int .i64 n] wr fun e w' => ∃ u, e = .returned u ∧ w'.ownsRow wr.heap.size 55 15 u 0 [] ∧ Below wr.heap.size wr w') := HGr.out n (by omega)
      clear HGr HNn
      go_wp2_with fail
      refine HG3.out.mono ?_
      rintro e w1 ⟨u1, rfl, hu1, hb1⟩
      have HC0 : Hid (OwS wr.heap.size w1 u1 ((Ls.take 0).flatten) ∧ Below wr.heap.size wr w1) := ⟨hu1, hb1⟩
      clear hu1 hb1 HG3
      obtain ⟨ww, hww⟩ : ∃ ww : World, ww = wr := ⟨_, rfl⟩
      rw [← hww] at HC0 HP
      have Hww : Hid (ww = wr) := hww
      clear hww
      go_wp2_with fail
      go_loopw [6, 27] (fun v i wq => ∃ j : Nat, i = .int .i64 j ∧ j ≤ k ∧ Hid (OwS ww.heap.size wq v ((Ls.take j).flatten) ∧ Below ww.heap.size ww wq)) (fun _ i _ => k - (intOf i).toNat)
      case atStart => exact ⟨0, rfl, Nat.zero_le _, HC0⟩
      case round =>
        clear HC0
        obtain ⟨j, rfl, hj, HR⟩ := hrel
        by_cases hlt2 : j < k
        · have ij : (j : Int) < k := by omega
          obtain ⟨M, oM, cM, hb, ho, rfl, hlb, hcell, hM, hMn, hMl, hacc, hal⟩ := HP.out j hlt2
          have hc : wr.cell? ⟨hb, ho + j, none⟩ = some (.slice oM M.length cM) := (HR.out.2.cell (p := ⟨hb, ho + j, none⟩) hlb).trans hcell
          obtain ⟨acc, hac⟩ : ∃ acc, acc = (Ls.take j).flatten := ⟨_, rfl⟩
          rw [← hac] at hacc hal
          have HA : Hid ((Ls.take (j + 1)).flatten = acc ++ M) := hacc
          have HO : Hid (wr.ownsRow ww.heap.size 55 15 u6 acc.length (flatZ acc) ∧ Below ww.heap.size ww wr ∧ ww.heap.size ≤ wr.heap.size ∧ LsS wr (.slice oM M.length cM) M ∧ NoNil (.slice oM M.length cM)) := by
            have h := HR.out.1
            rw [← hac] at h
            exact ⟨h, HR.out.2, HR.out.2.size, hM.below HR.out.2, hMn⟩
          clear HR hac hacc hcell hM hMn
          go_wp2_with (at_builtin; refine app_moreS rfl _ _ rfl i0 Tryz.underlying27 hi hz0 hz1 hz2 ww.heap.size u6 acc acc.length rfl rfl HO.out.1 HO.out.2.2.1 M oM cM M.length rfl rfl HO.out.2.2.2.1 HO.out.2.2.2.2 (by omega) ?_)
          intro v' w4 H4
          have HRel : Hid (OwS ww.heap.size w4 v' ((Ls.take (j + 1)).flatten) ∧ Below ww.heap.size ww w4) := by
            refine ⟨by rw [HA.out]; exact H4.out.1, HO.out.2.1.grown H4.out.2 HO.out.2.2.1 (fun g hg => (row_lt HO.out.1 g hg).1)⟩
          clear H4 HO
          go_wp2
          go_roundw
          case rel => exact ⟨j + 1, by go_num, by omega, HRel⟩
          case measure => simp [intOf]; omega
        · obtain rfl : j = k := by omega
          have ij : ¬ (j : Int) < j := by omega
          have HF : Hid (OwS ww.heap.size wr u6 Ls.flatten ∧ Below ww.heap.size ww wr) := by rw [← HEnd.out]; exact HR.out
          rw [Hww.out] at HF
          clear HR
          go_wp2
          go_ret
          exact ⟨_, rfl, HF.out.1, HF.out.2⟩

end Go.Proofs.YtapachlhdgehjaaGreatDoor

/-
  Contracts of package list: Same, Join.
-/
namespace Go.Proofs.YtapachlhdgehjaaGreatDoor
open Go.RowKit

set_option maxRecDepth 20000 in
set_option maxHeartbeats 4000000 in
theorem equalZ_any (a b : List St) (va vb : Value) (w : World) (ha : LsS w va a) (hb : LsS w vb b) (hl : a.length < 1000000) :
    Calls Tryz.prog 43 #[va, vb] w fun e w' => e = .returned (.bool (samZ a b)) ∧ Below w.heap.size w w' := by
  obtain ⟨oa, ca, rfl, hca, hga⟩ := ha
  obtain ⟨ob, cb, rfl, hcb, hgb⟩ := hb
  by_cases hn : a.length = b.length
  case neg =>
    have hn' : ((a.length : Int) == (b.length : Int)) = false := beq_eq_false_iff_ne.2 (by omega)
    rw [samZ_no (fun h => hn (by rw [h]))]
    clear hga hgb hn
    go_enter Tryz.func43, Tryz.ntmps43
    go_wp2
    go_ret
    exact ⟨rfl, Below.refl _ _⟩
  case pos =>
    have HA : Hid (0 < a.length → ∃ g o, oa = some ⟨g, o, none⟩ ∧ g < w.heap.size ∧ ∀ i (h : i < a.length), StAt w g (o + i * 15) a[i]) := hga
    have HB : Hid (0 < b.length → ∃ g o, ob = some ⟨g, o, none⟩ ∧ g < w.heap.size ∧ ∀ i (h : i < b.length), StAt w g (o + i * 15) b[i]) := hgb
    obtain ⟨R, HR⟩ : ∃ R, Hid (samZ a b = R) := ⟨_, rfl⟩
    rw [HR.out]
    have HN : Hid (a.length = b.length) := hn
    obtain ⟨m, hm⟩ : ∃ m, m = b.length := ⟨_, rfl⟩
    have hm2 : a.length = m := by rw [hm]; exact hn
    have HM : Hid (b.length = m ∧ a.length = m) := ⟨hm.symm, hm2⟩
    rw [← hm]
    rw [hm2]
    rw [hm2] at hl
    clear hga hgb hn hm hm2 hca hcb
    go_enter Tryz.func43, Tryz.ntmps43
    go_wp2_with fail
    go_loopw [13] (fun i wr => ∃ k : Nat, k ≤ m ∧ i = .int .i64 k ∧ Hid ((∀ j, j < k → a[j]? = b[j]?) ∧ Below w.heap.size w wr)) (fun i _ => m - (intOf i).toNat)
    case atStart => exact ⟨0, Nat.zero_le _, rfl, fun j hj => absurd hj (Nat.not_lt_zero _), Below.refl _ _⟩
    case round =>
      obtain ⟨k, hk, rfl, HK⟩ := hrel
      by_cases hlt : k < m
      · have ik : (k : Int) < m := by omega
        have hla : k < a.length := by rw [HM.out.2]; exact hlt
        have hlb : k < b.length := by rw [HM.out.1]; exact hlt
        obtain ⟨g, o, rfl, hg, hat⟩ := HA.out (by omega)
        obtain ⟨g', o', rfl, hg', hat'⟩ := HB.out (by omega)
        have hx := (hat k hla).kept (w' := wr) fun j => HK.out.2.cell (p := ⟨g, j, none⟩) hg
        have hy := (hat' k hlb).kept (w' := wr) fun j => HK.out.2.cell (p := ⟨g', j, none⟩) hg'
        have HE : Hid (a[k]? = some a[k] ∧ b[k]? = some b[k]) := ⟨List.getElem?_eq_getElem hla, List.getElem?_eq_getElem hlb⟩
        clear hat hat'
        generalize a[k] = x at *
        generalize b[k] = y at *
        obtain ⟨x0, x1, x2, x3, x4, x5, x6, x7, x8, x9, x10, x11, x12, x13, x14⟩ := hx
        obtain ⟨y0, y1, y2, y3, y4, y5, y6, y7, y8, y9, y10, y11, y12, y13, y14⟩ := hy
        have hq := neq_stroke x y
        cases ht : eqS x y
        · have HF : Hid (R = false ∧ Below w.heap.size w wr) := by
            refine ⟨?_, HK.out.2⟩
            rw [← HR.out]
            refine samZ_no fun e => ?_
            have h1 := HE.out.1
            rw [e, HE.out.2] at h1
            injection h1 with h1
            rw [h1, eqS_self] at ht
            cases ht
          rw [ht] at hq
          clear HK HE ht hla hlb
          go_wp2_with fail
          go_quiet (fail)
          go_wp2
          go_ret
          exact ⟨by rw [HF.out.1]; rfl, below_drewN HF.out.2⟩
        · have HF : Hid ((∀ j, j < k + 1 → a[j]? = b[j]?) ∧ Below w.heap.size w wr) := by
            refine ⟨fun j hj => ?_, HK.out.2⟩
            by_cases hjk : j = k
            · subst hjk; rw [HE.out.1, HE.out.2, (eqS_iff x y).1 ht]
            · exact HK.out.1 j (by omega)
          rw [ht] at hq
          clear HK HE ht hla hlb
          go_wp2_with fail
          go_quiet (fail)
          go_wp2
          go_roundw
          case rel => exact ⟨k + 1, by omega, by go_num, HF.out.1, below_drewN HF.out.2⟩
          case measure => simp [intOf]; omega
      · obtain rfl : k = m := by omega
        have HF : Hid (R = true ∧ Below w.heap.size w wr) := by
          refine ⟨?_, HK.out.2⟩
          rw [← HR.out, samZ_iff]
          refine List.ext_getElem? fun j => ?_
          by_cases hj : j < k
          · exact HK.out.1 j hj
          · rw [List.getElem?_eq_none (by have := HM.out.2; omega), List.getElem?_eq_none (by have := HM.out.1; omega)]
        clear HK
        go_wp2
        go_ret
        exact ⟨by rw [HF.out.1]; rfl, HF.out.2⟩

theorem lsame_any (a b : List St) (va vb : Value) (w : World) (ha : LsS w va a) (hb : LsS w vb b) (hl : a.length < 1000000) :
    Calls Tryz.prog 20 #[va, vb] w fun e w' => e = .returned (.bool (samZ a b)) ∧ Below w.heap.size w w' := by
  have HE : Hid (Calls Tryz.prog 43 #[va, vb] w fun e w' => e = .returned (.bool (samZ a b)) ∧ Below w.heap.size w w') := equalZ_any a b va vb w ha hb hl
  clear ha hb
  generalize samZ a b = sb at *
  go_enter Tryz.func20, Tryz.ntmps20
  go_wp2_with fail
  refine HE.out.mono ?_
  rintro e w1 ⟨rfl, hb1⟩
  have H1 : Hid (Below w.heap.size w w1) := hb1
  clear hb1
  go_wp2
  go_ret
  exact ⟨rfl, H1.out⟩

set_option maxRecDepth 20000 in
set_option maxHeartbeats 8000000 in
theorem ljoin_any (a b : List St) (va vb : Value) (w : World) (ha : LsS w va a) (hb : LsS w vb b) (na : NoNil va) (nb : NoNil vb) (ta : Txs a) (tb : Txs b) (xa : Xys a) (xb : Xys b) (la : a.length ≤ 20000) (lb : b.length ≤ 20000) :
    Calls Tryz.prog 9 #[va, vb] w fun e w' => AnsS w (joiL a b) (joiE a b) e w' := by
  have HC : Hid (Calls Tryz.prog 15 #[va] w fun e w' => e = .returned (.int .i64 (chkS a)) ∧ Below w.heap.size w w') := lcheck_any a va w ha ta xa
  have HD : Hid (∀ W, Below w.heap.size w W → Calls Tryz.prog 15 #[vb] W fun e w' => e = .returned (.int .i64 (chkS b)) ∧ Below W.heap.size W w') := fun W h => lcheck_any b vb W (hb.below h) tb xb
  obtain ⟨oa, ca, rfl, hca, _⟩ := id ha
  obtain ⟨ob, cb, rfl, hcb, _⟩ := id hb
  have HV : Hid (LsS w (.slice oa a.length ca) a ∧ LsS w (.slice ob b.length cb) b ∧ NoNil (.slice oa a.length ca) ∧ NoNil (.slice ob b.length cb)) := ⟨ha, hb, na, nb⟩
  clear ha hb na nb ta tb xa xb
  obtain ⟨E, hE⟩ : ∃ E, E = joiE a b := ⟨_, rfl⟩
  obtain ⟨J, hJ⟩ : ∃ J, J = joiL a b := ⟨_, rfl⟩
  rw [← hE, ← hJ]
  unfold AnsS
  have hJ2 : J = if E = 0 then a ++ b else [] := by rw [hJ, hE]; rfl
  unfold joiE at hE
  clear hJ
  by_cases h1 : chkS a = 0
  · rw [if_pos h1] at hE
    rw [h1] at HC
    by_cases h2 : chkS b = 0
    · rw [if_pos h2] at hE
      rw [h2] at HD
      by_cases h3 : 16384 < a.length + b.length
      · rw [if_pos h3] at hE
        subst hE
        have HJ : Hid (J = []) := hJ2
        have h3' : (16384 : Int) < (a.length : Int) + (b.length : Int) := by omega
        clear hJ2 h1 h2 h3
        go_enter Tryz.func9, Tryz.ntmps9
        go_wp2_with fail
        refine HC.out.mono ?_
        rintro e w1 ⟨rfl, hb1⟩
        have H1 : Hid (Below w.heap.size w w1) := hb1
        clear hb1
        go_wp2_with fail
        refine (HD.out _ H1.out).mono ?_
        rintro e w2 ⟨rfl, hb2⟩
        have H2 : Hid (Below w.heap.size w w2) := H1.out.trans (hb2.mono H1.out.size)
        clear hb2
        go_wp2
        go_ret2
        refine ⟨_, rfl, ?_⟩
        rw [HJ.out]
        exact ⟨OwS.nil _ _, H2.out⟩
      · rw [if_neg h3] at hE
        subst hE
        have HJ : Hid (J = a ++ b) := hJ2
        have h3' : ¬ (16384 : Int) < (a.length : Int) + (b.length : Int) := by omega
        have HCon : Hid (∀ W, Below w.heap.size w W → Calls Tryz.prog 32 #[.slice (some ⟨W.heap.size, 0, none⟩) 2 2] (W.alloc (.cells #[.slice oa a.length ca, .slice ob b.length cb] 27)) fun e w' => ∃ u, e = .returned u ∧ Hid (OwS w.heap.size w' u J ∧ Below w.heap.size w w')) := fun W h => by
          have h4 : Below w.heap.size w (W.alloc (.cells #[.slice oa a.length ca, .slice ob b.length cb] 27)) := h.alloc h.size _
          have hR : RowsS (W.alloc (.cells #[.slice oa a.length ca, .slice ob b.length cb] 27)) (.slice (some ⟨W.heap.size, 0, none⟩) 2 2) [a, b] := by
            refine ⟨_, 2, rfl, Nat.le_refl _, fun _ => ⟨W.heap.size, 0, rfl, by simp, fun k hk => ?_⟩⟩
            have hk2 : k = 0 ∨ k = 1 := by have : k < 2 := hk; omega
            rcases hk2 with rfl | rfl
            · exact ⟨_, (Bk.new W _ _).cell 0, HV.out.1.below h4, HV.out.2.2.1⟩
            · exact ⟨_, (Bk.new W _ _).cell 1, HV.out.2.1.below h4, HV.out.2.2.2⟩
          refine (concS_any [a, b] _ _ hR (by simp) (by simp; omega)).mono ?_
          rintro e w' ⟨u, rfl, hu, hb⟩
          refine ⟨u, rfl, ?_, h4.trans (hb.mono h4.size)⟩
          rw [HJ.out]
          have := hu.weaken h4.size
          simpa using this
        clear hJ2 h1 h2
        go_enter Tryz.func9, Tryz.ntmps9
        go_wp2_with fail
        refine HC.out.mono ?_
        rintro e w1 ⟨rfl, hb1⟩
        have H1 : Hid (Below w.heap.size w w1) := hb1
        clear hb1
        go_wp2_with fail
        refine (HD.out _ H1.out).mono ?_
        rintro e w2 ⟨rfl, hb2⟩
        have H2 : Hid (Below w.heap.size w w2) := H1.out.trans (hb2.mono H1.out.size)
        clear hb2
        go_wp2_with fail
        refine (HCon.out _ H2.out).mono ?_
        rintro e w3 ⟨u, rfl, HF⟩
        clear HCon
        go_wp2
        go_ret2
        exact ⟨_, rfl, HF⟩
    · rw [if_neg h2] at hE
      have hne : (E != 0) = true := by rw [hE]; simp [h2]
      have HJ : Hid (J = []) := by unfold Hid; rw [hJ2, if_neg (by rw [hE]; exact h2)]
      rw [← hE] at HD
      clear hJ2 h1 h2 hE
      go_enter Tryz.func9, Tryz.ntmps9
      go_wp2_with fail
      refine HC.out.mono ?_
      rintro e w1 ⟨rfl, hb1⟩
      have H1 : Hid (Below w.heap.size w w1) := hb1
      clear hb1
      go_wp2_with fail
      refine (HD.out _ H1.out).mono ?_
      rintro e w2 ⟨rfl, hb2⟩
      have H2 : Hid (Below w.heap.size w w2) := H1.out.trans (hb2.mono H1.out.size)
      clear hb2
      go_wp2
      go_ret2
      refine ⟨_, rfl, ?_⟩
      rw [HJ.out]
      exact ⟨OwS.nil _ _, H2.out⟩
  · rw [if_neg h1] at hE
    have hne : (E != 0) = true := by rw [hE]; simp [h1]
    have HJ : Hid (J = []) := by unfold Hid; rw [hJ2, if_neg (by rw [hE]; exact h1)]
    rw [← hE] at HC
    clear hJ2 h1 hE
    go_enter Tryz.func9, Tryz.ntmps9
    go_wp2_with fail
    refine HC.out.mono ?_
    rintro e w1 ⟨rfl, hb1⟩
    have H1 : Hid (Below w.heap.size w w1) := hb1
    clear hb1
    go_wp2
    go_ret2
    refine ⟨_, rfl, ?_⟩
    rw [HJ.out]
    exact ⟨OwS.nil _ _, H1.out⟩

end Go.Proofs.YtapachlhdgehjaaGreatDoor
