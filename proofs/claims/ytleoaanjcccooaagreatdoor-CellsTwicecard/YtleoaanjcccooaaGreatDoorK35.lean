/-
  Texts of this claim, one behind the other: what each is about stands ahead of it.
-/
import Derived.Test.YtleoaanjcccooaaGreatDoorK32
import Derived.Test.YtleoaanjcccooaaGreatDoorK34
import Derived.Test.YtleoaanjcccooaaGreatDoorK26
import Derived.Test.YtleoaanjcccooaaGreatDoorK33
/-
  What package list calls of Go's library: slices.Grow, Concat, Clone of strokes.
-/
namespace Go.Proofs.YtleoaanjcccooaaGreatDoor
open Go.RowKit Go.Shelf

theorem nil_ne (ad : Addr) (n cap : Nat) (W : World) : (binOp .eql 27 (.slice (some ad) n cap) (.slice none 0 0)).run Tryz.prog W = .ok (.bool false) W := by kernel_rfl
theorem nil_eq (W : World) : (binOp .eql 27 (.slice none 0 0) (.slice none 0 0)).run Tryz.prog W = .ok (.bool true) W := by kernel_rfl

theorem growZ_any (n : Nat) (w : World) (hn : n ≤ 1000000) :
    Calls Tryz.prog 78 #[.slice none 0 0, .int .i64 n] w fun e w' => ∃ u, e = .returned u ∧ w'.ownsRow w.heap.size 58 15 u 0 [] ∧ Below w.heap.size w w' := by
  by_cases h0 : n = 0
  · subst h0
    have h := Any8.slices_Grow_room Tryz.growS none 0 0 0 w (Nat.le_refl _) (by omega) (by omega) (by omega)
    change Calls Tryz.prog 78 _ _ _ at h
    exact h.mono fun e w' ⟨he, hw⟩ => ⟨_, he, World.ownsRow_nil _ _ _ _, by rw [hw]; exact Below.refl _ _⟩
  · obtain ⟨i0, hi, hz0, hz1, hz2⟩ := info_parts info_strokeZ
    have h := Any8.slices_Grow_grow Tryz.growS i0 (.agg #[.int .u8 0, .int .i64 0, .int .i64 0, .int .i64 0, .int .i64 0, .int .u8 0, .int .u8 0, .int .u8 0, .int .u8 0, .int .u8 0, .int .u8 0, .int .u8 0, .int .u8 0, .string ByteArray.empty, .int .i64 0]) hi hz0 (by rw [hz1]; decide) none 0 0 n [] w (Nat.le_refl _) (by omega) (by rw [hz2]; omega) (by omega) (by simp) (fun _ => rfl) (fun a h => by cases h)
    change Calls Tryz.prog 78 _ _ _ at h
    refine h.mono fun e w' ⟨he, hw⟩ => ⟨_, he, ?_, ?_⟩
    · have hle := grownCap_le_maxLen w (0 + n) 0 58 (by unfold maxLen; omega)
      refine ⟨rfl, .inr ⟨w.heap.size, _, ([] : List Value).toArray ++ Builtin.zeroCells (Value.cells (.agg #[.int .u8 0, .int .i64 0, .int .i64 0, .int .i64 0, .int .i64 0, .int .u8 0, .int .u8 0, .int .u8 0, .int .u8 0, .int .u8 0, .int .u8 0, .int .u8 0, .int .u8 0, .string ByteArray.empty, .int .i64 0])) (0 + n - 0) ++ Builtin.zeroCells (Value.cells (.agg #[.int .u8 0, .int .i64 0, .int .i64 0, .int .i64 0, .int .i64 0, .int .u8 0, .int .u8 0, .int .u8 0, .int .u8 0, .int .u8 0, .int .u8 0, .int .u8 0, .int .u8 0, .string ByteArray.empty, .int .i64 0])) (grownCap w (0 + n) 0 58 - (0 + n)), rfl, Nat.le_refl _, ?_, Nat.zero_le _, hle, ?_, by simp⟩⟩
      · rw [hw]
        exact Bk.new w.drew _ _
      · have hzc : (Value.cells (.agg #[.int .u8 0, .int .i64 0, .int .i64 0, .int .i64 0, .int .i64 0, .int .u8 0, .int .u8 0, .int .u8 0, .int .u8 0, .int .u8 0, .int .u8 0, .int .u8 0, .int .u8 0, .string ByteArray.empty, .int .i64 0])).size = 15 := rfl
        rw [Array.size_append, Array.size_append, size_zeroCells, size_zeroCells, hzc]
        simp
        have : n ≤ grownCap w n 0 58 := grownCap_ge w n 0 58
        show n * 15 + (grownCap w n 0 58 - n) * 15 = grownCap w n 0 58 * 15
        omega
    · rw [hw]
      exact ((Below.refl _ w).drew).alloc (Nat.le_refl _) _

/-- A slice of slices, each of which holds api.Stroke. -/
def RowsS (w : World) (v : Value) (Ls : List (List St)) : Prop := ∃ oa cap, v = .slice oa Ls.length cap ∧ Ls.length ≤ cap ∧ (0 < Ls.length → ∃ hb ho, oa = some ⟨hb, ho, none⟩ ∧ hb < w.heap.size ∧ ∀ k (h : k < Ls.length), ∃ u, w.cell? ⟨hb, ho + k, none⟩ = some u ∧ LsS w u Ls[k] ∧ NoNil u)
theorem RowsS.below {w w' : World} {v : Value} {Ls : List (List St)} (h : RowsS w v Ls) (hb : Below w.heap.size w w') : RowsS w' v Ls := by
  obtain ⟨oa, cap, e, hc, hg⟩ := h
  refine ⟨oa, cap, e, hc, fun hp => ?_⟩
  obtain ⟨g, o, e1, g1, g2⟩ := hg hp
  refine ⟨g, o, e1, Nat.lt_of_lt_of_le g1 hb.size, fun i hi => ?_⟩
  obtain ⟨u, c, hl, hn⟩ := g2 i hi
  exact ⟨u, (hb.cell (p := ⟨g, o + i, none⟩) g1).trans c, hl.below hb, hn⟩

set_option maxRecDepth 10000 in
set_option maxHeartbeats 4000000 in
theorem concS_any (Ls : List (List St)) (v : Value) (w : World) (hv : RowsS w v Ls) (hn : Ls.length ≤ 20000) (ht : Ls.flatten.length ≤ 100000) :
    Calls Tryz.prog 41 #[v] w fun e w' => ∃ u, e = .returned u ∧ OwS w.heap.size w' u Ls.flatten ∧ Below w.heap.size w w' := by
  obtain ⟨i0, hi, hz0, hz1, hz2⟩ := info_parts info_strokeZ
  obtain ⟨oa, cap, rfl, hcap, hg⟩ := hv
  have HP : Hid (∀ k, k < Ls.length → ∃ (M : List St) (oM : Option Addr) (cM hb ho : Nat), oa = some ⟨hb, ho, none⟩ ∧ hb < w.heap.size ∧ w.cell? ⟨hb, ho + k, none⟩ = some (.slice oM M.length cM) ∧ LsS w (.slice oM M.length cM) M ∧ NoNil (.slice oM M.length cM) ∧ M.length ≤ 100000 ∧ (Ls.take (k + 1)).flatten = (Ls.take k).flatten ++ M ∧ (Ls.take k).flatten.length + M.length ≤ 100000) := by
    intro k hk
    obtain ⟨hb, ho, e, hlt, hat⟩ := hg (by omega)
    obtain ⟨u, hc, hl, hnn⟩ := hat k hk
    obtain ⟨oM, cM, rfl, hcM, hgM⟩ := id hl
    have e1 : (Ls.take (k + 1)).flatten = (Ls.take k).flatten ++ Ls[k] := by
      rw [← List.take_append_getElem hk, List.flatten_append]; simp
    have e2 : (Ls.take k).flatten.length + Ls[k].length ≤ 100000 := by
      rw [← List.length_append, ← e1]
      have : Ls.flatten = (Ls.take (k + 1)).flatten ++ (Ls.drop (k + 1)).flatten := by rw [← List.flatten_append, List.take_append_drop]
      rw [this, List.length_append] at ht
      omega
    exact ⟨Ls[k], oM, cM, hb, ho, e, hlt, hc, hl, hnn, by omega, e1, e2⟩
  have HEnd : Hid ((Ls.take Ls.length).flatten = Ls.flatten) := by unfold Hid; rw [List.take_length]
  have HGr : Hid (∀ n : Nat, n ≤ 1000000 → Calls Tryz.prog 78 #[.slice none 0 0, .int .i64 n] w fun e w' => ∃ u, e = .returned u ∧ w'.ownsRow w.heap.size 58 15 u 0 [] ∧ Below w.heap.size w w') := fun n h => growZ_any n w h
  obtain ⟨N, hN⟩ : ∃ N, N = Ls.length := ⟨_, rfl⟩
  have HN : Hid (N = Ls.length) := hN
  rw [← hN] at hcap hn HP HEnd ⊢
  clear hg hN
  go_enter Tryz.func41, Tryz.ntmps41
  go_wp2_with fail
  go_loopw [3, 11] (fun s i wr => ∃ (k n : Nat), k ≤ N ∧ i = .int .i64 k ∧ s = .int .i64 n ∧ n ≤ 100000 ∧ Hid (n = ((Ls.take k).flatten).length) ∧ wr = w) (fun _ i _ => N - (intOf i).toNat)
  case atStart => exact ⟨0, 0, by omega, rfl, rfl, by omega, by unfold Hid; simp, rfl⟩
  case round =>
    obtain ⟨k, n, hk, rfl, rfl, hn1, HNn, rfl⟩ := hrel
    by_cases hlt : k < N
    · have ik : (k : Int) < N := by omega
      obtain ⟨M, oM, cM, hb, ho, rfl, hlb, hcell, _, _, hMl, hacc, hal⟩ := HP.out k hlt
      have hnm : n + M.length ≤ 100000 := by rw [HNn.out]; exact hal
      have HRel : Hid (∃ (k' n' : Nat), k' ≤ N ∧ Value.int .i64 ((k : Int) + 1) = .int .i64 k' ∧ Value.int .i64 ((n : Int) + (M.length : Int)) = .int .i64 n' ∧ n' ≤ 100000 ∧ Hid (n' = ((Ls.take k').flatten).length) ∧ True) := ⟨k + 1, n + M.length, by omega, by go_num, by rw [Int.natCast_add], hnm, by unfold Hid; rw [hacc, List.length_append, HNn.out], trivial⟩
      clear hacc hal HNn
      go_wp2
      go_roundw
      case rel => exact HRel.out
      case measure => simp [intOf]; omega
    · obtain rfl : k = N := by omega
      have ik : ¬ (k : Int) < k := by omega
      have HG3 : Hid (Calls Tryz.prog 78 #[.slice none 0 0, .int .i64 n] wr fun e w' => ∃ u, e = .returned u ∧ w'.ownsRow wr.heap.size 58 15 u 0 [] ∧ Below wr.heap.size wr w') := HGr.out n (by omega)
      clear HGr HNn
      go_wp2_with fail
      refine HG3.out.mono ?_
      rintro e w1 ⟨u1, rfl, hu1, hb1⟩
      have HC0 : Hid (OwS wr.heap.size w1 u1 ((Ls.take 0).flatten) ∧ Below wr.heap.size wr w1) := ⟨hu1, hb1⟩
      clear hu1 hb1 HG3
      obtain ⟨ww, hww⟩ : ∃ ww : World, ww = wr := ⟨_, rfl⟩
      rw [← hww] at HC0 HP
      have Hww : Hid (ww = wr) := hww
      clear hww
      go_wp2_with fail
      go_loopw [6, 27] (fun v i wq => ∃ j : Nat, i = .int .i64 j ∧ j ≤ k ∧ Hid (OwS ww.heap.size wq v ((Ls.take j).flatten) ∧ Below ww.heap.size ww wq)) (fun _ i _ => k - (intOf i).toNat)
      case atStart => exact ⟨0, rfl, Nat.zero_le _, HC0⟩
      case round =>
        clear HC0
        obtain ⟨j, rfl, hj, HR⟩ := hrel
        by_cases hlt2 : j < k
        · have ij : (j : Int) < k := by omega
          obtain ⟨M, oM, cM, hb, ho, rfl, hlb, hcell, hM, hMn, hMl, hacc, hal⟩ := HP.out j hlt2
          have hc : wr.cell? ⟨hb, ho + j, none⟩ = some (.slice oM M.length cM) := (HR.out.2.cell (p := ⟨hb, ho + j, none⟩) hlb).trans hcell
          obtain ⟨acc, hac⟩ : ∃ acc, acc = (Ls.take j).flatten := ⟨_, rfl⟩
          rw [← hac] at hacc hal
          have HA : Hid ((Ls.take (j + 1)).flatten = acc ++ M) := hacc
          have HO : Hid (wr.ownsRow ww.heap.size 58 15 u6 acc.length (flatZ acc) ∧ Below ww.heap.size ww wr ∧ ww.heap.size ≤ wr.heap.size ∧ LsS wr (.slice oM M.length cM) M ∧ NoNil (.slice oM M.length cM)) := by
            have h := HR.out.1
            rw [← hac] at h
            exact ⟨h, HR.out.2, HR.out.2.size, hM.below HR.out.2, hMn⟩
          clear HR hac hacc hcell hM hMn
          go_wp2_with (at_builtin; refine app_moreS rfl _ _ rfl i0 Tryz.underlying27 hi hz0 hz1 hz2 ww.heap.size u6 acc acc.length rfl rfl HO.out.1 HO.out.2.2.1 M oM cM M.length rfl rfl HO.out.2.2.2.1 HO.out.2.2.2.2 (by omega) ?_)
          intro v' w4 H4
          have HRel : Hid (OwS ww.heap.size w4 v' ((Ls.take (j + 1)).flatten) ∧ Below ww.heap.size ww w4) := by
            refine ⟨by rw [HA.out]; exact H4.out.1, HO.out.2.1.grown H4.out.2 HO.out.2.2.1 (fun g hg => (row_lt HO.out.1 g hg).1)⟩
          clear H4 HO
          go_wp2
          go_roundw
          case rel => exact ⟨j + 1, by go_num, by omega, HRel⟩
          case measure => simp [intOf]; omega
        · obtain rfl : j = k := by omega
          have ij : ¬ (j : Int) < j := by omega
          have HF : Hid (OwS ww.heap.size wr u6 Ls.flatten ∧ Below ww.heap.size ww wr) := by rw [← HEnd.out]; exact HR.out
          rw [Hww.out] at HF
          clear HR
          go_wp2
          go_ret
          exact ⟨_, rfl, HF.out.1, HF.out.2⟩

end Go.Proofs.YtleoaanjcccooaaGreatDoor

/-
  Contracts of package list: Same, Join.
-/
namespace Go.Proofs.YtleoaanjcccooaaGreatDoor
open Go.RowKit

set_option maxRecDepth 20000 in
set_option maxHeartbeats 8000000 in
theorem ljoin_any (a b : List St) (va vb : Value) (w : World) (ha : LsS w va a) (hb : LsS w vb b) (na : NoNil va) (nb : NoNil vb) (ta : Txs a) (tb : Txs b) (xa : Xys a) (xb : Xys b) (la : a.length ≤ 20000) (lb : b.length ≤ 20000) :
    Calls Tryz.prog 14 #[va, vb] w fun e w' => AnsS w (joiL a b) (joiE a b) e w' := by
  have HC : Hid (Calls Tryz.prog 27 #[va] w fun e w' => e = .returned (.int .i64 (chkS a)) ∧ Below w.heap.size w w') := lcheck_any a va w ha ta xa
  have HD : Hid (∀ W, Below w.heap.size w W → Calls Tryz.prog 27 #[vb] W fun e w' => e = .returned (.int .i64 (chkS b)) ∧ Below W.heap.size W w') := fun W h => lcheck_any b vb W (hb.below h) tb xb
  obtain ⟨oa, ca, rfl, hca, _⟩ := id ha
  obtain ⟨ob, cb, rfl, hcb, _⟩ := id hb
  have HV : Hid (LsS w (.slice oa a.length ca) a ∧ LsS w (.slice ob b.length cb) b ∧ NoNil (.slice oa a.length ca) ∧ NoNil (.slice ob b.length cb)) := ⟨ha, hb, na, nb⟩
  clear ha hb na nb ta tb xa xb
  obtain ⟨E, hE⟩ : ∃ E, E = joiE a b := ⟨_, rfl⟩
  obtain ⟨J, hJ⟩ : ∃ J, J = joiL a b := ⟨_, rfl⟩
  rw [← hE, ← hJ]
  unfold AnsS
  have hJ2 : J = if E = 0 then a ++ b else [] := by rw [hJ, hE]; rfl
  unfold joiE at hE
  clear hJ
  by_cases h1 : chkS a = 0
  · rw [if_pos h1] at hE
    rw [h1] at HC
    by_cases h2 : chkS b = 0
    · rw [if_pos h2] at hE
      rw [h2] at HD
      by_cases h3 : 16384 < a.length + b.length
      · rw [if_pos h3] at hE
        subst hE
        have HJ : Hid (J = []) := hJ2
        have h3' : (16384 : Int) < (a.length : Int) + (b.length : Int) := by omega
        clear hJ2 h1 h2 h3
        go_enter Tryz.func14, Tryz.ntmps14
        go_wp2_with fail
        refine HC.out.mono ?_
        rintro e w1 ⟨rfl, hb1⟩
        have H1 : Hid (Below w.heap.size w w1) := hb1
        clear hb1
        go_wp2_with fail
        refine (HD.out _ H1.out).mono ?_
        rintro e w2 ⟨rfl, hb2⟩
        have H2 : Hid (Below w.heap.size w w2) := H1.out.trans (hb2.mono H1.out.size)
        clear hb2
        go_wp2
        go_ret2
        refine ⟨_, rfl, ?_⟩
        rw [HJ.out]
        exact ⟨OwS.nil _ _, H2.out⟩
      · rw [if_neg h3] at hE
        subst hE
        have HJ : Hid (J = a ++ b) := hJ2
        have h3' : ¬ (16384 : Int) < (a.length : Int) + (b.length : Int) := by omega
        have HCon : Hid (∀ W, Below w.heap.size w W → Calls Tryz.prog 41 #[.slice (some ⟨W.heap.size, 0, none⟩) 2 2] (W.alloc (.cells #[.slice oa a.length ca, .slice ob b.length cb] 27)) fun e w' => ∃ u, e = .returned u ∧ Hid (OwS w.heap.size w' u J ∧ Below w.heap.size w w')) := fun W h => by
          have h4 : Below w.heap.size w (W.alloc (.cells #[.slice oa a.length ca, .slice ob b.length cb] 27)) := h.alloc h.size _
          have hR : RowsS (W.alloc (.cells #[.slice oa a.length ca, .slice ob b.length cb] 27)) (.slice (some ⟨W.heap.size, 0, none⟩) 2 2) [a, b] := by
            refine ⟨_, 2, rfl, Nat.le_refl _, fun _ => ⟨W.heap.size, 0, rfl, by simp, fun k hk => ?_⟩⟩
            have hk2 : k = 0 ∨ k = 1 := by have : k < 2 := hk; omega
            rcases hk2 with rfl | rfl
            · exact ⟨_, (Bk.new W _ _).cell 0, HV.out.1.below h4, HV.out.2.2.1⟩
            · exact ⟨_, (Bk.new W _ _).cell 1, HV.out.2.1.below h4, HV.out.2.2.2⟩
          refine (concS_any [a, b] _ _ hR (by simp) (by simp; omega)).mono ?_
          rintro e w' ⟨u, rfl, hu, hb⟩
          refine ⟨u, rfl, ?_, h4.trans (hb.mono h4.size)⟩
          rw [HJ.out]
          have := hu.weaken h4.size
          simpa using this
        clear hJ2 h1 h2
        go_enter Tryz.func14, Tryz.ntmps14
        go_wp2_with fail
        refine HC.out.mono ?_
        rintro e w1 ⟨rfl, hb1⟩
        have H1 : Hid (Below w.heap.size w w1) := hb1
        clear hb1
        go_wp2_with fail
        refine (HD.out _ H1.out).mono ?_
        rintro e w2 ⟨rfl, hb2⟩
        have H2 : Hid (Below w.heap.size w w2) := H1.out.trans (hb2.mono H1.out.size)
        clear hb2
        go_wp2_with fail
        refine (HCon.out _ H2.out).mono ?_
        rintro e w3 ⟨u, rfl, HF⟩
        clear HCon
        go_wp2
        go_ret2
        exact ⟨_, rfl, HF⟩
    · rw [if_neg h2] at hE
      have hne : (E != 0) = true := by rw [hE]; simp [h2]
      have HJ : Hid (J = []) := by unfold Hid; rw [hJ2, if_neg (by rw [hE]; exact h2)]
      rw [← hE] at HD
      clear hJ2 h1 h2 hE
      go_enter Tryz.func14, Tryz.ntmps14
      go_wp2_with fail
      refine HC.out.mono ?_
      rintro e w1 ⟨rfl, hb1⟩
      have H1 : Hid (Below w.heap.size w w1) := hb1
      clear hb1
      go_wp2_with fail
      refine (HD.out _ H1.out).mono ?_
      rintro e w2 ⟨rfl, hb2⟩
      have H2 : Hid (Below w.heap.size w w2) := H1.out.trans (hb2.mono H1.out.size)
      clear hb2
      go_wp2
      go_ret2
      refine ⟨_, rfl, ?_⟩
      rw [HJ.out]
      exact ⟨OwS.nil _ _, H2.out⟩
  · rw [if_neg h1] at hE
    have hne : (E != 0) = true := by rw [hE]; simp [h1]
    have HJ : Hid (J = []) := by unfold Hid; rw [hJ2, if_neg (by rw [hE]; exact h1)]
    rw [← hE] at HC
    clear hJ2 h1 hE
    go_enter Tryz.func14, Tryz.ntmps14
    go_wp2_with fail
    refine HC.out.mono ?_
    rintro e w1 ⟨rfl, hb1⟩
    have H1 : Hid (Below w.heap.size w w1) := hb1
    clear hb1
    go_wp2
    go_ret2
    refine ⟨_, rfl, ?_⟩
    rw [HJ.out]
    exact ⟨OwS.nil _ _, H1.out⟩

end Go.Proofs.YtleoaanjcccooaaGreatDoor

/-
  CellsTwice: one list drawn behind another one.
-/
namespace Go.Proofs.YtleoaanjcccooaaGreatDoor
open Go.RowKit

set_option maxHeartbeats 1000000 in
theorem large15 (a b : Int) (oa : Option Addr) (n cap : Nat) (w : World) : Calls Tryz.prog 6 #[.agg #[.int .i64 a, .int .i64 b, .slice oa n cap]] w fun e w' => e = .returned (.bool (decide ((600 : Int) < (n : Nat)))) ∧ Below w.heap.size w w' := by
  have hB := (Below.refl _ w).alloc (Nat.le_refl _) (.cells #[.int .i64 a, .int .i64 b, .slice oa n cap] 26)
  obtain ⟨c0, c1, c2⟩ := Bk.at3S (Bk.new w #[.int .i64 a, .int .i64 b, .slice oa n cap] 26)
  go_enter Tryz.func6, Tryz.ntmps6
  go_wp2
  go_ret
  exact ⟨rfl, hB⟩

/-- What came in, and the screen in its box. -/
structure TwF (w : World) (sB : Nat) (a b : Int) (v vl vm : Value) (L : List Ce) (l m : List St) (W : World) : Prop where
  s : Bk W sB #[.int .i64 a, .int .i64 b, v] 26
  c : LsC W v L
  l : LsS W vl l
  m : LsS W vm m
  b : Below w.heap.size w W
theorem TwF.below {w : World} {sB : Nat} {a b : Int} {v vl vm : Value} {L : List Ce} {l m : List St} {W W' : World} (h : TwF w sB a b v vl vm L l m W) (hb : Below W.heap.size W W') : TwF w sB a b v vl vm L l m W' :=
  ⟨h.s.below hb, h.c.below hb, h.l.below hb, h.m.below hb, h.b.trans (hb.mono h.b.size)⟩

set_option maxRecDepth 20000 in
set_option maxHeartbeats 8000000 in
theorem ctwice_walk (a b : Int) (L : List Ce) (l m : List St) (v vl vm : Value) (w : World) (hv : LsC w v L) (hvl : LsS w vl l) (hvm : LsS w vm m) (nv : NoNil v) (nl : NoNil vl) (nm : NoNil vm) (hwc : WfC L) (hwl : Wfs l) (hwm : Wfs m) (hE : Env15 w) :
    Calls Tryz.prog 4 #[.agg #[.int .i64 a, .int .i64 b, v], vl, vm] w fun e w' => e = .returned (.bool true) ∧ Below w.heap.size w w' := by
  obtain ⟨oa, cap, rfl, hcap, _⟩ := id hv
  obtain ⟨ol, cl, rfl, hcl, _⟩ := id hvl
  obtain ⟨om, cm, rfl, hcm, _⟩ := id hvm
  obtain ⟨n, hn⟩ : ∃ n, n = L.length := ⟨_, rfl⟩
  obtain ⟨nl', hnl⟩ : ∃ k, k = l.length := ⟨_, rfl⟩
  obtain ⟨nm', hnm⟩ : ∃ k, k = m.length := ⟨_, rfl⟩
  have H0 : Hid (∀ W, W = w.alloc (.cells #[.int .i64 a, .int .i64 b, .slice oa n cap] 26) → TwF w w.heap.size a b (.slice oa n cap) (.slice ol nl' cl) (.slice om nm' cm) L l m W) := fun W hW => by
    have bb : Below w.heap.size w W := by rw [hW]; exact (Below.refl _ w).alloc (Nat.le_refl _) _
    rw [hn, hnl, hnm]
    refine ⟨by rw [hW, hn]; exact Bk.new _ _ _, hv.below bb, hvl.below bb, hvm.below bb, bb⟩
  have HE : Hid (Env15 w) := hE
  have HAw : Hid (∀ W, Below w.heap.size w W → Calls Tryz.prog 5 #[] W fun e w' => e = .returned (.bool true) ∧ Below W.heap.size W w') := fun W h => awake15_any W (HE.out.below h)
  obtain ⟨lg, hlg⟩ : ∃ lg, lg = decide ((600 : Int) < (n : Nat)) := ⟨_, rfl⟩
  have HLg : Hid (∀ W, Calls Tryz.prog 6 #[.agg #[.int .i64 a, .int .i64 b, .slice oa n cap]] W fun e w' => e = .returned (.bool lg) ∧ Below W.heap.size W w') := fun W => by rw [hlg]; exact large15 a b oa n cap W
  rw [← hn, ← hnl, ← hnm]
  cases lg with
  | true =>
    clear hv hvl hvm nv nl nm hwc hwl hwm hE HE hn hnl hnm hcap hcl hcm hlg
    go_enter Tryz.func4, Tryz.ntmps4
    go_wp2_with fail
    obtain ⟨W0, hW0⟩ : ∃ W0, W0 = w.alloc (.cells #[.int .i64 a, .int .i64 b, .slice oa n cap] 26) := ⟨_, rfl⟩
    obtain ⟨sB, hsB⟩ : ∃ sB, sB = w.heap.size := ⟨_, rfl⟩
    have H1 := show Hid (TwF w sB a b (.slice oa n cap) (.slice ol nl' cl) (.slice om nm' cm) L l m W0) from by rw [hsB]; exact H0.out W0 hW0
    rw [← hW0, ← hsB]
    clear hW0 hsB H0
    refine (HAw.out _ H1.out.b).mono ?_
    rintro e w1 ⟨rfl, hb⟩
    have H2 := show Hid _ from H1.out.below hb
    clear hb H1 HAw
    obtain ⟨z0, z1, z2⟩ := Bk.at3S H2.out.s
    go_wp2_with fail
    refine (HLg.out _).mono ?_
    rintro e w2 ⟨rfl, hb⟩
    have H3 := show Hid _ from H2.out.below hb
    clear hb H2 HLg z0 z1 z2
    go_wp2
    go_ret
    exact ⟨rfl, H3.out.b⟩
  | false =>
    by_cases k1 : (40 : Int) < (nl' : Nat)
    · clear hv hvl hvm nv nl nm hwc hwl hwm hE HE hn hnl hnm hcap hcl hcm hlg
      go_enter Tryz.func4, Tryz.ntmps4
      go_wp2_with fail
      obtain ⟨W0, hW0⟩ : ∃ W0, W0 = w.alloc (.cells #[.int .i64 a, .int .i64 b, .slice oa n cap] 26) := ⟨_, rfl⟩
      obtain ⟨sB, hsB⟩ : ∃ sB, sB = w.heap.size := ⟨_, rfl⟩
      have H1 := show Hid (TwF w sB a b (.slice oa n cap) (.slice ol nl' cl) (.slice om nm' cm) L l m W0) from by rw [hsB]; exact H0.out W0 hW0
      rw [← hW0, ← hsB]
      clear hW0 hsB H0
      refine (HAw.out _ H1.out.b).mono ?_
      rintro e w1 ⟨rfl, hb⟩
      have H2 := show Hid _ from H1.out.below hb
      clear hb H1 HAw
      obtain ⟨z0, z1, z2⟩ := Bk.at3S H2.out.s
      go_wp2_with fail
      refine (HLg.out _).mono ?_
      rintro e w2 ⟨rfl, hb⟩
      have H3 := show Hid _ from H2.out.below hb
      clear hb H2 HLg z0 z1 z2
      go_wp2
      go_ret
      exact ⟨rfl, H3.out.b⟩
    by_cases k2 : (40 : Int) < (nm' : Nat)
    · clear hv hvl hvm nv nl nm hwc hwl hwm hE HE hn hnl hnm hcap hcl hcm hlg
      go_enter Tryz.func4, Tryz.ntmps4
      go_wp2_with fail
      obtain ⟨W0, hW0⟩ : ∃ W0, W0 = w.alloc (.cells #[.int .i64 a, .int .i64 b, .slice oa n cap] 26) := ⟨_, rfl⟩
      obtain ⟨sB, hsB⟩ : ∃ sB, sB = w.heap.size := ⟨_, rfl⟩
      have H1 := show Hid (TwF w sB a b (.slice oa n cap) (.slice ol nl' cl) (.slice om nm' cm) L l m W0) from by rw [hsB]; exact H0.out W0 hW0
      rw [← hW0, ← hsB]
      clear hW0 hsB H0
      refine (HAw.out _ H1.out.b).mono ?_
      rintro e w1 ⟨rfl, hb⟩
      have H2 := show Hid _ from H1.out.below hb
      clear hb H1 HAw
      obtain ⟨z0, z1, z2⟩ := Bk.at3S H2.out.s
      go_wp2_with fail
      refine (HLg.out _).mono ?_
      rintro e w2 ⟨rfl, hb⟩
      have H3 := show Hid _ from H2.out.below hb
      clear hb H2 HLg z0 z1 z2
      go_wp2
      go_ret
      exact ⟨rfl, H3.out.b⟩
    have hl4 : l.length ≤ 40 ∧ m.length ≤ 40 := by omega
    have hl6 : L.length ≤ 600 := by
      have := of_decide_eq_false hlg.symm
      omega
    rcases (show scE a b L = 150 ∨ scE a b L = 0 by unfold scE; split <;> simp) with hs | hs
    · have HD1 : Hid (∀ W, TwF w w.heap.size a b (.slice oa n cap) (.slice ol nl' cl) (.slice om nm' cm) L l m W → True) := fun _ _ => trivial
      clear HD1
      have HD1 : Hid (∀ sB W, TwF w sB a b (.slice oa n cap) (.slice ol nl' cl) (.slice om nm' cm) L l m W → Calls Tryz.prog 7 #[.agg #[.int .i64 a, .int .i64 b, .slice oa n cap], .slice ol nl' cl] W fun e w' => e = .returned (.tuple #[.agg #[.int .i64 0, .int .i64 0, .slice none 0 0], .int .i64 150]) ∧ Below W.heap.size W w') := fun sB W h => dDraw_scr a b L _ _ W h.c (by omega) hs (HE.out.t W h.b).1
      clear hv hvl hvm nv nl nm hwc hwl hwm hE HE hn hnl hnm hcap hcl hcm hlg hs hl4 hl6
      go_enter Tryz.func4, Tryz.ntmps4
      go_wp2_with fail
      obtain ⟨W0, hW0⟩ : ∃ W0, W0 = w.alloc (.cells #[.int .i64 a, .int .i64 b, .slice oa n cap] 26) := ⟨_, rfl⟩
      obtain ⟨sB, hsB⟩ : ∃ sB, sB = w.heap.size := ⟨_, rfl⟩
      have H1 := show Hid (TwF w sB a b (.slice oa n cap) (.slice ol nl' cl) (.slice om nm' cm) L l m W0) from by rw [hsB]; exact H0.out W0 hW0
      rw [← hW0, ← hsB]
      clear hW0 hsB H0
      refine (HAw.out _ H1.out.b).mono ?_
      rintro e w1 ⟨rfl, hb⟩
      have H2 := show Hid _ from H1.out.below hb
      clear hb H1 HAw
      obtain ⟨z0, z1, z2⟩ := Bk.at3S H2.out.s
      go_wp2_with fail
      refine (HLg.out _).mono ?_
      rintro e w2 ⟨rfl, hb⟩
      have H3 := show Hid _ from H2.out.below hb
      clear hb H2 HLg z0 z1 z2
      obtain ⟨z0, z1, z2⟩ := Bk.at3S H3.out.s
      go_wp2_with fail
      refine (HD1.out sB _ H3.out).mono ?_
      rintro e w3 ⟨rfl, hb⟩
      have H4 := show Hid (Below w.heap.size w (w3.alloc (.cells #[.int .i64 0, .int .i64 0, .slice none 0 0] 26))) from by
        have h := (H3.out.below hb).b
        exact h.alloc h.size _
      clear hb H3 HD1 z0 z1 z2
      go_wp2
      go_ret
      exact ⟨rfl, H4.out⟩
    by_cases hc : chkS l ≠ 0
    · obtain ⟨E, hEq⟩ : ∃ E, E = chkS l := ⟨_, rfl⟩
      have hE0 : ¬ E = 0 := by rw [hEq]; exact hc
      have HD1 : Hid (∀ sB W, TwF w sB a b (.slice oa n cap) (.slice ol nl' cl) (.slice om nm' cm) L l m W → Calls Tryz.prog 7 #[.agg #[.int .i64 a, .int .i64 b, .slice oa n cap], .slice ol nl' cl] W fun e w' => e = .returned (.tuple #[.agg #[.int .i64 0, .int .i64 0, .slice none 0 0], .int .i64 E]) ∧ Below W.heap.size W w') := fun sB W h => by rw [hEq]; exact dDraw_lst a b L _ l _ W h.c (by omega) hs h.l hwl.txs (aw_xys hwl) hc (HE.out.t W h.b).1
      clear hv hvl hvm nv nl nm hwc hwl hwm hE HE hn hnl hnm hcap hcl hcm hlg hs hl4 hl6 hc hEq
      go_enter Tryz.func4, Tryz.ntmps4
      go_wp2_with fail
      obtain ⟨W0, hW0⟩ : ∃ W0, W0 = w.alloc (.cells #[.int .i64 a, .int .i64 b, .slice oa n cap] 26) := ⟨_, rfl⟩
      obtain ⟨sB, hsB⟩ : ∃ sB, sB = w.heap.size := ⟨_, rfl⟩
      have H1 := show Hid (TwF w sB a b (.slice oa n cap) (.slice ol nl' cl) (.slice om nm' cm) L l m W0) from by rw [hsB]; exact H0.out W0 hW0
      rw [← hW0, ← hsB]
      clear hW0 hsB H0
      refine (HAw.out _ H1.out.b).mono ?_
      rintro e w1 ⟨rfl, hb⟩
      have H2 := show Hid _ from H1.out.below hb
      clear hb H1 HAw
      obtain ⟨z0, z1, z2⟩ := Bk.at3S H2.out.s
      go_wp2_with fail
      refine (HLg.out _).mono ?_
      rintro e w2 ⟨rfl, hb⟩
      have H3 := show Hid _ from H2.out.below hb
      clear hb H2 HLg z0 z1 z2
      obtain ⟨z0, z1, z2⟩ := Bk.at3S H3.out.s
      go_wp2_with fail
      refine (HD1.out sB _ H3.out).mono ?_
      rintro e w3 ⟨rfl, hb⟩
      have H4 := show Hid (Below w.heap.size w (w3.alloc (.cells #[.int .i64 0, .int .i64 0, .slice none 0 0] 26))) from by
        have h := (H3.out.below hb).b
        exact h.alloc h.size _
      clear hb H3 HD1 z0 z1 z2
      go_wp2
      go_ret
      exact ⟨rfl, H4.out⟩
    replace hc : chkS l = 0 := Decidable.not_not.1 hc
    obtain ⟨hz, hln, hok⟩ : szB a b = true ∧ (L.length : Int) = a * b ∧ okCs L = true := by
      unfold scE at hs
      split at hs
      · next h => exact h
      · cases hs
    have hz5 := szB_iff.1 hz
    obtain ⟨a0, rfl⟩ : ∃ k : Nat, a = k := ⟨a.toNat, by omega⟩
    obtain ⟨b0, rfl⟩ : ∃ k : Nat, b = k := ⟨b.toNat, by omega⟩
    obtain ⟨A, hA⟩ : ∃ A, A = drwS a0 L (flaL l) := ⟨_, rfl⟩
    have hAl : A.length = n := by rw [hA, drwS_len, hn]
    have hAo : okCs A = true := by rw [hA]; exact drwS_okC hok _
    have hAw : WfC A := by rw [hA]; exact wf_drwS hwc fun p hp => ⟨(hwl _ (fla_facts hc p hp).2).2.2.1, (hwl _ (fla_facts hc p hp).2).2.2.2.1⟩
    have hAs : scE (a0 : Nat) (b0 : Nat) A = 0 := by unfold scE; rw [if_pos ⟨hz, by rw [hAl, hn]; exact hln, hAo⟩]
    have HD1 : Hid (∀ sB W, TwF w sB (a0 : Nat) (b0 : Nat) (.slice oa n cap) (.slice ol nl' cl) (.slice om nm' cm) L l m W → Calls Tryz.prog 7 #[.agg #[.int .i64 (a0 : Nat), .int .i64 (b0 : Nat), .slice oa n cap], .slice ol nl' cl] W fun e w' => ∃ ga cg, e = .returned (.tuple #[.agg #[.int .i64 (a0 : Nat), .int .i64 (b0 : Nat), .slice ga n cg], .int .i64 0]) ∧ Hid (LsC w' (.slice ga n cg) A ∧ NoNil (.slice ga n cg) ∧ Below W.heap.size W w')) := fun sB W h => by
      refine (dDraw_ok frame_any a0 b0 L _ l _ W h.c (by rw [hn]; exact nv) hz hln hok h.l hwl.txs (aw_xys hwl) hc hwc (fun s hs => ⟨(hwl s hs).2.2.1, (hwl s hs).2.2.2.1⟩) (HE.out.t W h.b).1 (fun W' h' => HE.out.t W' (h.b.trans (h'.mono h.b.size)))).mono ?_
      rintro e w' ⟨u, rfl, hu⟩
      rw [← hA] at hu
      have hnn := own_nil hu.out.1
      obtain ⟨ga, cg, rfl, _, _⟩ := id hu.out.1.lsc
      have hq := hu.out.1.lsc
      rw [hAl] at hnn hq ⊢
      exact ⟨ga, cg, rfl, hq, hnn, hu.out.2⟩
    have HJ : Hid (∀ sB W, TwF w sB (a0 : Nat) (b0 : Nat) (.slice oa n cap) (.slice ol nl' cl) (.slice om nm' cm) L l m W → Calls Tryz.prog 14 #[.slice ol nl' cl, .slice om nm' cm] W fun e w' => AnsS W (joiL l m) (joiE l m) e w') := fun sB W h => ljoin_any l m _ _ W h.l h.m (by rw [hnl]; exact nl) (by rw [hnm]; exact nm) hwl.txs hwm.txs (aw_xys hwl) (aw_xys hwm) (by omega) (by omega)
    by_cases hd : chkS m ≠ 0
    · obtain ⟨E, hEq⟩ : ∃ E, E = chkS m := ⟨_, rfl⟩
      have hE0 : ¬ E = 0 := by rw [hEq]; exact hd
      have hjE : joiE l m = E := by unfold joiE; rw [if_pos hc, if_neg hd, hEq]
      have HD2 : Hid (∀ W ga cg, Below w.heap.size w W → LsC W (.slice ga n cg) A → LsS W (.slice om nm' cm) m → Calls Tryz.prog 7 #[.agg #[.int .i64 (a0 : Nat), .int .i64 (b0 : Nat), .slice ga n cg], .slice om nm' cm] W fun e w' => e = .returned (.tuple #[.agg #[.int .i64 0, .int .i64 0, .slice none 0 0], .int .i64 E]) ∧ Below W.heap.size W w') := fun W ga cg h h1 h2 => by rw [hEq]; exact dDraw_lst a0 b0 A _ m _ W h1 (by omega) hAs h2 hwm.txs (aw_xys hwm) hd (HE.out.t W h).1
      rw [hjE] at HJ
      clear hv hvl hvm nv nl nm hwc hwl hwm hE HE hn hnl hnm hcap hcl hcm hlg hs hl4 hl6 hc hEq hz hln hok hz5 hA hAl hAo hAw hAs hd hjE
      go_enter Tryz.func4, Tryz.ntmps4
      go_wp2_with fail
      obtain ⟨W0, hW0⟩ : ∃ W0, W0 = w.alloc (.cells #[.int .i64 (a0 : Nat), .int .i64 (b0 : Nat), .slice oa n cap] 26) := ⟨_, rfl⟩
      obtain ⟨sB, hsB⟩ : ∃ sB, sB = w.heap.size := ⟨_, rfl⟩
      have H1 := show Hid (TwF w sB (a0 : Nat) (b0 : Nat) (.slice oa n cap) (.slice ol nl' cl) (.slice om nm' cm) L l m W0) from by rw [hsB]; exact H0.out W0 hW0
      rw [← hW0, ← hsB]
      clear hW0 hsB H0
      refine (HAw.out _ H1.out.b).mono ?_
      rintro e w1 ⟨rfl, hb⟩
      have H2 := show Hid _ from H1.out.below hb
      clear hb H1 HAw
      obtain ⟨z0, z1, z2⟩ := Bk.at3S H2.out.s
      go_wp2_with fail
      refine (HLg.out _).mono ?_
      rintro e w2 ⟨rfl, hb⟩
      have H3 := show Hid _ from H2.out.below hb
      clear hb H2 HLg z0 z1 z2
      obtain ⟨z0, z1, z2⟩ := Bk.at3S H3.out.s
      go_wp2_with fail
      refine (HD1.out sB _ H3.out).mono ?_
      rintro e w3 ⟨ga, cg, rfl, hh⟩
      have H4 := show Hid (TwF w sB (a0 : Nat) (b0 : Nat) (.slice oa n cap) (.slice ol nl' cl) (.slice om nm' cm) L l m w3 ∧ LsC w3 (.slice ga n cg) A ∧ NoNil (.slice ga n cg)) from ⟨H3.out.below hh.out.2.2, hh.out.1, hh.out.2.1⟩
      have H5 : Hid (∀ W, W = w3.alloc (.cells #[.int .i64 (a0 : Nat), .int .i64 (b0 : Nat), .slice ga n cg] 26) → TwF w sB (a0 : Nat) (b0 : Nat) (.slice oa n cap) (.slice ol nl' cl) (.slice om nm' cm) L l m W ∧ LsC W (.slice ga n cg) A ∧ NoNil (.slice ga n cg) ∧ Bk W w3.heap.size #[.int .i64 (a0 : Nat), .int .i64 (b0 : Nat), .slice ga n cg] 26) := fun W hW => by
        subst hW
        have hb := (Below.refl _ w3).alloc (Nat.le_refl _) (.cells #[.int .i64 (a0 : Nat), .int .i64 (b0 : Nat), .slice ga n cg] 26)
        exact ⟨H4.out.1.below hb, H4.out.2.1.below hb, H4.out.2.2, Bk.new _ _ _⟩
      obtain ⟨W5, hW5⟩ : ∃ W5, W5 = w3.alloc (.cells #[.int .i64 (a0 : Nat), .int .i64 (b0 : Nat), .slice ga n cg] 26) := ⟨_, rfl⟩
      obtain ⟨dB, hdB⟩ : ∃ dB, dB = w3.heap.size := ⟨_, rfl⟩
      have H6 := show Hid (TwF w sB (a0 : Nat) (b0 : Nat) (.slice oa n cap) (.slice ol nl' cl) (.slice om nm' cm) L l m W5 ∧ LsC W5 (.slice ga n cg) A ∧ NoNil (.slice ga n cg) ∧ Bk W5 dB #[.int .i64 (a0 : Nat), .int .i64 (b0 : Nat), .slice ga n cg] 26) from by rw [hdB]; exact H5.out W5 hW5
      clear hh H3 H4 H5 HD1 z0 z1 z2
      obtain ⟨y0, y1, y2⟩ := Bk.at3S H6.out.2.2.2
      rw [hW5, hdB] at y0 y1 y2
      go_wp2_with fail
      rw [← hW5, ← hdB]
      clear y0 y1 y2 hW5 hdB
      refine (HD2.out _ ga cg H6.out.1.b H6.out.2.1 H6.out.1.m).mono ?_
      rintro e w7 ⟨rfl, hb⟩
      have H7 := show Hid (TwF w sB (a0 : Nat) (b0 : Nat) (.slice oa n cap) (.slice ol nl' cl) (.slice om nm' cm) L l m w7) from H6.out.1.below hb
      have H8 : Hid (∀ W, W = w7.alloc (.cells #[.int .i64 0, .int .i64 0, .slice none 0 0] 26) → TwF w sB (a0 : Nat) (b0 : Nat) (.slice oa n cap) (.slice ol nl' cl) (.slice om nm' cm) L l m W ∧ Bk W w7.heap.size #[.int .i64 0, .int .i64 0, .slice none 0 0] 26) := fun W hW => by
        subst hW
        exact ⟨H7.out.below ((Below.refl _ w7).alloc (Nat.le_refl _) _), Bk.new _ _ _⟩
      clear hb H6 H7 HD2
      go_wp2_with fail
      obtain ⟨W8, hW8⟩ : ∃ W8, W8 = w7.alloc (.cells #[.int .i64 0, .int .i64 0, .slice none 0 0] 26) := ⟨_, rfl⟩
      obtain ⟨gB, hgB⟩ : ∃ gB, gB = w7.heap.size := ⟨_, rfl⟩
      have H9 := show Hid (TwF w sB (a0 : Nat) (b0 : Nat) (.slice oa n cap) (.slice ol nl' cl) (.slice om nm' cm) L l m W8 ∧ Bk W8 gB #[.int .i64 0, .int .i64 0, .slice none 0 0] 26) from by rw [hgB]; exact H8.out W8 hW8
      rw [← hW8, ← hgB]
      clear hW8 hgB H8
      refine (HJ.out sB _ H9.out.1).mono ?_
      rintro e w9 ⟨uj, rfl, hj⟩
      have HA := show Hid (Below w.heap.size w w9 ∧ Bk w9 gB #[.int .i64 0, .int .i64 0, .slice none 0 0] 26) from ⟨(H9.out.1.below hj.out.2).b, H9.out.2.below hj.out.2⟩
      clear hj H9 HJ
      obtain ⟨x0, x1, x2⟩ := Bk.at3S HA.out.2
      go_wp2
      go_ret
      exact ⟨rfl, HA.out.1⟩
    replace hd : chkS m = 0 := Decidable.not_not.1 hd
    obtain ⟨B, hB⟩ : ∃ B, B = drwS a0 A (flaL m) := ⟨_, rfl⟩
    have hBl : B.length = n := by rw [hB, drwS_len, hAl]
    have hBj : drwS a0 L (flaL (l ++ m)) = B := by rw [hB, hA, drwS_join a0 L hc]
    have hlm : chkS (l ++ m) = 0 := chk_join hc hd (by omega)
    have hjE : joiE l m = 0 := by unfold joiE; rw [if_pos hc, if_pos hd, if_neg (by omega)]
    have hjL : joiL l m = l ++ m := by unfold joiL; rw [if_pos hjE]
    have hwj : Wfs (l ++ m) := fun s hs => (List.mem_append.1 hs).elim (hwl s) (hwm s)
    rw [hjE, hjL] at HJ
    have HD2 : Hid (∀ W ga cg, Below w.heap.size w W → LsC W (.slice ga n cg) A → NoNil (.slice ga n cg) → LsS W (.slice om nm' cm) m → Calls Tryz.prog 7 #[.agg #[.int .i64 (a0 : Nat), .int .i64 (b0 : Nat), .slice ga n cg], .slice om nm' cm] W fun e w' => ∃ gb cb, e = .returned (.tuple #[.agg #[.int .i64 (a0 : Nat), .int .i64 (b0 : Nat), .slice gb n cb], .int .i64 0]) ∧ Hid (LsC w' (.slice gb n cb) B ∧ Below W.heap.size W w')) := fun W ga cg h h1 h2 h3 => by
      refine (dDraw_ok frame_any a0 b0 A _ m _ W h1 h2 hz (by rw [hAl, hn]; exact hln) hAo h3 hwm.txs (aw_xys hwm) hd hAw (fun s hs => ⟨(hwm s hs).2.2.1, (hwm s hs).2.2.2.1⟩) (HE.out.t W h).1 (fun W' h' => HE.out.t W' (h.trans (h'.mono h.size)))).mono ?_
      rintro e w' ⟨u, rfl, hu⟩
      rw [← hB] at hu
      obtain ⟨ga, cg, rfl, _, _⟩ := id hu.out.1.lsc
      have hq := hu.out.1.lsc
      rw [hBl] at hq ⊢
      exact ⟨ga, cg, rfl, hq, hu.out.2⟩
    have HD3 : Hid (∀ sB W vj, TwF w sB (a0 : Nat) (b0 : Nat) (.slice oa n cap) (.slice ol nl' cl) (.slice om nm' cm) L l m W → LsS W vj (l ++ m) → Calls Tryz.prog 7 #[.agg #[.int .i64 (a0 : Nat), .int .i64 (b0 : Nat), .slice oa n cap], vj] W fun e w' => ∃ gb cb, e = .returned (.tuple #[.agg #[.int .i64 (a0 : Nat), .int .i64 (b0 : Nat), .slice gb n cb], .int .i64 0]) ∧ Hid (LsC w' (.slice gb n cb) B ∧ Below W.heap.size W w')) := fun sB W vj h h3 => by
      refine (dDraw_ok frame_any a0 b0 L _ (l ++ m) _ W h.c (by rw [hn]; exact nv) hz hln hok h3 hwj.txs (aw_xys hwj) hlm hwc (fun s hs => ⟨(hwj s hs).2.2.1, (hwj s hs).2.2.2.1⟩) (HE.out.t W h.b).1 (fun W' h' => HE.out.t W' (h.b.trans (h'.mono h.b.size)))).mono ?_
      rintro e w' ⟨u, rfl, hu⟩
      rw [hBj] at hu
      obtain ⟨ga, cg, rfl, _, _⟩ := id hu.out.1.lsc
      have hq := hu.out.1.lsc
      rw [hBl] at hq ⊢
      exact ⟨ga, cg, rfl, hq, hu.out.2⟩
    have HSm : Hid (∀ W u v, LsC W u B → LsC W v B → Calls Tryz.prog 9 #[.agg #[.int .i64 (a0 : Nat), .int .i64 (b0 : Nat), u], .agg #[.int .i64 (a0 : Nat), .int .i64 (b0 : Nat), v]] W fun e w' => e = .returned (.bool true) ∧ Below W.heap.size W w') := fun W u v h h' => scr15_any a0 b0 B u v W h h' (by omega)
    clear hv hvl hvm nv nl nm hwc hwl hwm hE HE hn hnl hnm hcap hcl hcm hlg hs hl4 hl6 hc hz hln hok hz5 hA hAl hAo hAw hAs hd hjE hB hBl hBj hlm hjL hwj
    go_enter Tryz.func4, Tryz.ntmps4
    go_wp2_with fail
    obtain ⟨W0, hW0⟩ : ∃ W0, W0 = w.alloc (.cells #[.int .i64 (a0 : Nat), .int .i64 (b0 : Nat), .slice oa n cap] 26) := ⟨_, rfl⟩
    obtain ⟨sB, hsB⟩ : ∃ sB, sB = w.heap.size := ⟨_, rfl⟩
    have H1 := show Hid (TwF w sB (a0 : Nat) (b0 : Nat) (.slice oa n cap) (.slice ol nl' cl) (.slice om nm' cm) L l m W0) from by rw [hsB]; exact H0.out W0 hW0
    rw [← hW0, ← hsB]
    clear hW0 hsB H0
    refine (HAw.out _ H1.out.b).mono ?_
    rintro e w1 ⟨rfl, hb⟩
    have H2 := show Hid _ from H1.out.below hb
    clear hb H1 HAw
    obtain ⟨z0, z1, z2⟩ := Bk.at3S H2.out.s
    go_wp2_with fail
    refine (HLg.out _).mono ?_
    rintro e w2 ⟨rfl, hb⟩
    have H3 := show Hid _ from H2.out.below hb
    clear hb H2 HLg z0 z1 z2
    obtain ⟨z0, z1, z2⟩ := Bk.at3S H3.out.s
    go_wp2_with fail
    refine (HD1.out sB _ H3.out).mono ?_
    rintro e w3 ⟨ga, cg, rfl, hh⟩
    have H4 := show Hid (TwF w sB (a0 : Nat) (b0 : Nat) (.slice oa n cap) (.slice ol nl' cl) (.slice om nm' cm) L l m w3 ∧ LsC w3 (.slice ga n cg) A ∧ NoNil (.slice ga n cg)) from ⟨H3.out.below hh.out.2.2, hh.out.1, hh.out.2.1⟩
    have H5 : Hid (∀ W, W = w3.alloc (.cells #[.int .i64 (a0 : Nat), .int .i64 (b0 : Nat), .slice ga n cg] 26) → TwF w sB (a0 : Nat) (b0 : Nat) (.slice oa n cap) (.slice ol nl' cl) (.slice om nm' cm) L l m W ∧ LsC W (.slice ga n cg) A ∧ NoNil (.slice ga n cg) ∧ Bk W w3.heap.size #[.int .i64 (a0 : Nat), .int .i64 (b0 : Nat), .slice ga n cg] 26) := fun W hW => by
      subst hW
      have hb := (Below.refl _ w3).alloc (Nat.le_refl _) (.cells #[.int .i64 (a0 : Nat), .int .i64 (b0 : Nat), .slice ga n cg] 26)
      exact ⟨H4.out.1.below hb, H4.out.2.1.below hb, H4.out.2.2, Bk.new _ _ _⟩
    obtain ⟨W5, hW5⟩ : ∃ W5, W5 = w3.alloc (.cells #[.int .i64 (a0 : Nat), .int .i64 (b0 : Nat), .slice ga n cg] 26) := ⟨_, rfl⟩
    obtain ⟨dB, hdB⟩ : ∃ dB, dB = w3.heap.size := ⟨_, rfl⟩
    have H6 := show Hid (TwF w sB (a0 : Nat) (b0 : Nat) (.slice oa n cap) (.slice ol nl' cl) (.slice om nm' cm) L l m W5 ∧ LsC W5 (.slice ga n cg) A ∧ NoNil (.slice ga n cg) ∧ Bk W5 dB #[.int .i64 (a0 : Nat), .int .i64 (b0 : Nat), .slice ga n cg] 26) from by rw [hdB]; exact H5.out W5 hW5
    clear hh H3 H4 H5 HD1 z0 z1 z2
    obtain ⟨y0, y1, y2⟩ := Bk.at3S H6.out.2.2.2
    rw [hW5, hdB] at y0 y1 y2
    go_wp2_with fail
    rw [← hW5, ← hdB]
    clear y0 y1 y2 hW5 hdB
    refine (HD2.out _ ga cg H6.out.1.b H6.out.2.1 H6.out.2.2.1 H6.out.1.m).mono ?_
    rintro e w7 ⟨gb, cb, rfl, hh⟩
    have H7 := show Hid (TwF w sB (a0 : Nat) (b0 : Nat) (.slice oa n cap) (.slice ol nl' cl) (.slice om nm' cm) L l m w7 ∧ LsC w7 (.slice gb n cb) B) from ⟨H6.out.1.below hh.out.2, hh.out.1⟩
    have H8 : Hid (∀ W, W = w7.alloc (.cells #[.int .i64 (a0 : Nat), .int .i64 (b0 : Nat), .slice gb n cb] 26) → TwF w sB (a0 : Nat) (b0 : Nat) (.slice oa n cap) (.slice ol nl' cl) (.slice om nm' cm) L l m W ∧ LsC W (.slice gb n cb) B ∧ Bk W w7.heap.size #[.int .i64 (a0 : Nat), .int .i64 (b0 : Nat), .slice gb n cb] 26) := fun W hW => by
      subst hW
      have hb := (Below.refl _ w7).alloc (Nat.le_refl _) (.cells #[.int .i64 (a0 : Nat), .int .i64 (b0 : Nat), .slice gb n cb] 26)
      exact ⟨H7.out.1.below hb, H7.out.2.below hb, Bk.new _ _ _⟩
    clear hh H6 H7 HD2
    go_wp2_with fail
    obtain ⟨W8, hW8⟩ : ∃ W8, W8 = w7.alloc (.cells #[.int .i64 (a0 : Nat), .int .i64 (b0 : Nat), .slice gb n cb] 26) := ⟨_, rfl⟩
    obtain ⟨gB, hgB⟩ : ∃ gB, gB = w7.heap.size := ⟨_, rfl⟩
    have H9 := show Hid (TwF w sB (a0 : Nat) (b0 : Nat) (.slice oa n cap) (.slice ol nl' cl) (.slice om nm' cm) L l m W8 ∧ LsC W8 (.slice gb n cb) B ∧ Bk W8 gB #[.int .i64 (a0 : Nat), .int .i64 (b0 : Nat), .slice gb n cb] 26) from by rw [hgB]; exact H8.out W8 hW8
    rw [← hW8, ← hgB]
    clear hW8 hgB H8
    refine (HJ.out sB _ H9.out.1).mono ?_
    rintro e w9 ⟨uj, rfl, hj⟩
    have HA := show Hid (TwF w sB (a0 : Nat) (b0 : Nat) (.slice oa n cap) (.slice ol nl' cl) (.slice om nm' cm) L l m w9 ∧ LsC w9 (.slice gb n cb) B ∧ Bk w9 gB #[.int .i64 (a0 : Nat), .int .i64 (b0 : Nat), .slice gb n cb] 26 ∧ LsS w9 uj (l ++ m)) from ⟨H9.out.1.below hj.out.2, H9.out.2.1.below hj.out.2, H9.out.2.2.below hj.out.2, hj.out.1.lss⟩
    clear hj H9 HJ
    obtain ⟨z0, z1, z2⟩ := Bk.at3S HA.out.1.s
    go_wp2_with fail
    refine (HD3.out sB _ uj HA.out.1 HA.out.2.2.2).mono ?_
    rintro e w10 ⟨gc, cc, rfl, hh⟩
    have HB := show Hid (Below w.heap.size w w10 ∧ LsC w10 (.slice gb n cb) B ∧ Bk w10 gB #[.int .i64 (a0 : Nat), .int .i64 (b0 : Nat), .slice gb n cb] 26 ∧ LsC w10 (.slice gc n cc) B) from ⟨(HA.out.1.below hh.out.2).b, HA.out.2.1.below hh.out.2, HA.out.2.2.1.below hh.out.2, hh.out.1⟩
    have HC : Hid (∀ W, W = w10.alloc (.cells #[.int .i64 (a0 : Nat), .int .i64 (b0 : Nat), .slice gc n cc] 26) → Below w.heap.size w W ∧ LsC W (.slice gb n cb) B ∧ Bk W gB #[.int .i64 (a0 : Nat), .int .i64 (b0 : Nat), .slice gb n cb] 26 ∧ LsC W (.slice gc n cc) B ∧ Bk W w10.heap.size #[.int .i64 (a0 : Nat), .int .i64 (b0 : Nat), .slice gc n cc] 26) := fun W hW => by
      subst hW
      have hb := (Below.refl _ w10).alloc (Nat.le_refl _) (.cells #[.int .i64 (a0 : Nat), .int .i64 (b0 : Nat), .slice gc n cc] 26)
      exact ⟨HB.out.1.alloc HB.out.1.size _, HB.out.2.1.below hb, HB.out.2.2.1.below hb, HB.out.2.2.2.below hb, Bk.new _ _ _⟩
    obtain ⟨W11, hW11⟩ : ∃ W11, W11 = w10.alloc (.cells #[.int .i64 (a0 : Nat), .int .i64 (b0 : Nat), .slice gc n cc] 26) := ⟨_, rfl⟩
    have HC2 := show Hid _ from HC.out W11 hW11
    clear hh HA HB HC HD3 z0 z1 z2
    obtain ⟨z0, z1, z2⟩ := Bk.at3S HC2.out.2.2.1
    obtain ⟨y0, y1, y2⟩ := Bk.at3S HC2.out.2.2.2.2
    rw [hW11] at z0 z1 z2 y0 y1 y2
    go_wp2_with fail
    rw [← hW11]
    clear z0 z1 z2 y0 y1 y2 hW11
    refine (HSm.out _ _ _ HC2.out.2.2.2.1 HC2.out.2.1).mono ?_
    rintro e w12 ⟨rfl, hb⟩
    have HF := show Hid (Below w.heap.size w w12) from HC2.out.1.trans (hb.mono HC2.out.1.size)
    clear hb HC2 HSm
    go_wp2
    go_ret
    exact ⟨rfl, HF.out⟩

end Go.Proofs.YtleoaanjcccooaaGreatDoor
