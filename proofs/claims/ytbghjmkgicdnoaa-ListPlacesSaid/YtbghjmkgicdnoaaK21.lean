/-
  What package list calls of Go's library: slices.Grow, Concat, Clone of strokes.
-/
import Derived.Test.YtbghjmkgicdnoaaK14
import Derived.Test.YtbghjmkgicdnoaaK20
namespace Go.Proofs.Ytbghjmkgicdnoaa
open Go.RowKit Go.Shelf

theorem nil_ne (ad : Addr) (n cap : Nat) (W : World) : (binOp .eql 36 (.slice (some ad) n cap) (.slice none 0 0)).run Try.prog W = .ok (.bool false) W := by kernel_rfl
theorem nil_eq (W : World) : (binOp .eql 36 (.slice none 0 0) (.slice none 0 0)).run Try.prog W = .ok (.bool true) W := by kernel_rfl

theorem growZ_any (n : Nat) (w : World) (hn : n ≤ 1000000) :
    Calls Try.prog 72 #[.slice none 0 0, .int .i64 n] w fun e w' => ∃ u, e = .returned u ∧ w'.ownsRow w.heap.size 31 15 u 0 [] ∧ Below w.heap.size w w' := by
  by_cases h0 : n = 0
  · subst h0
    have h := Any8.slices_Grow_room Try.growS none 0 0 0 w (Nat.le_refl _) (by omega) (by omega) (by omega)
    change Calls Try.prog 72 _ _ _ at h
    exact h.mono fun e w' ⟨he, hw⟩ => ⟨_, he, World.ownsRow_nil _ _ _ _, by rw [hw]; exact Below.refl _ _⟩
  · obtain ⟨i0, hi, hz0, hz1, hz2⟩ := info_parts info_strokeZ
    have h := Any8.slices_Grow_grow Try.growS i0 (.agg #[.int .u8 0, .int .i64 0, .int .i64 0, .int .i64 0, .int .i64 0, .int .u8 0, .int .u8 0, .int .u8 0, .int .u8 0, .int .u8 0, .int .u8 0, .int .u8 0, .int .u8 0, .string ByteArray.empty, .int .i64 0]) hi hz0 (by rw [hz1]; decide) none 0 0 n [] w (Nat.le_refl _) (by omega) (by rw [hz2]; omega) (by omega) (by simp) (fun _ => rfl) (fun a h => by cases h)
    change Calls Try.prog 72 _ _ _ at h
    refine h.mono fun e w' ⟨he, hw⟩ => ⟨_, he, ?_, ?_⟩
    · have hle := grownCap_le_maxLen w (0 + n) 0 31 (by unfold maxLen; omega)
      refine ⟨rfl, .inr ⟨w.heap.size, _, ([] : List Value).toArray ++ Builtin.zeroCells (Value.cells (.agg #[.int .u8 0, .int .i64 0, .int .i64 0, .int .i64 0, .int .i64 0, .int .u8 0, .int .u8 0, .int .u8 0, .int .u8 0, .int .u8 0, .int .u8 0, .int .u8 0, .int .u8 0, .string ByteArray.empty, .int .i64 0])) (0 + n - 0) ++ Builtin.zeroCells (Value.cells (.agg #[.int .u8 0, .int .i64 0, .int .i64 0, .int .i64 0, .int .i64 0, .int .u8 0, .int .u8 0, .int .u8 0, .int .u8 0, .int .u8 0, .int .u8 0, .int .u8 0, .int .u8 0, .string ByteArray.empty, .int .i64 0])) (grownCap w (0 + n) 0 31 - (0 + n)), rfl, Nat.le_refl _, ?_, Nat.zero_le _, hle, ?_, by simp⟩⟩
      · rw [hw]
        exact Bk.new w.drew _ _
      · have hzc : (Value.cells (.agg #[.int .u8 0, .int .i64 0, .int .i64 0, .int .i64 0, .int .i64 0, .int .u8 0, .int .u8 0, .int .u8 0, .int .u8 0, .int .u8 0, .int .u8 0, .int .u8 0, .int .u8 0, .string ByteArray.empty, .int .i64 0])).size = 15 := rfl
        rw [Array.size_append, Array.size_append, size_zeroCells, size_zeroCells, hzc]
        simp
        have : n ≤ grownCap w n 0 31 := grownCap_ge w n 0 31
        show n * 15 + (grownCap w n 0 31 - n) * 15 = grownCap w n 0 31 * 15
        omega
    · rw [hw]
      exact ((Below.refl _ w).drew).alloc (Nat.le_refl _) _

/-- A slice of slices, each of which holds api.Stroke. -/
def RowsS (w : World) (v : Value) (Ls : List (List St)) : Prop := ∃ oa cap, v = .slice oa Ls.length cap ∧ Ls.length ≤ cap ∧ (0 < Ls.length → ∃ hb ho, oa = some ⟨hb, ho, none⟩ ∧ hb < w.heap.size ∧ ∀ k (h : k < Ls.length), ∃ u, w.cell? ⟨hb, ho + k, none⟩ = some u ∧ LsS w u Ls[k] ∧ NoNil u)
theorem RowsS.below {w w' : World} {v : Value} {Ls : List (List St)} (h : RowsS w v Ls) (hb : Below w.heap.size w w') : RowsS w' v Ls := by
  obtain ⟨oa, cap, e, hc, hg⟩ := h
  refine ⟨oa, cap, e, hc, fun hp => ?_⟩
  obtain ⟨g, o, e1, g1, g2⟩ := hg hp
  refine ⟨g, o, e1, Nat.lt_of_lt_of_le g1 hb.size, fun i hi => ?_⟩
  obtain ⟨u, c, hl, hn⟩ := g2 i hi
  exact ⟨u, (hb.cell (p := ⟨g, o + i, none⟩) g1).trans c, hl.below hb, hn⟩

set_option maxRecDepth 10000 in
set_option maxHeartbeats 4000000 in
theorem concS_any (Ls : List (List St)) (v : Value) (w : World) (hv : RowsS w v Ls) (hn : Ls.length ≤ 20000) (ht : Ls.flatten.length ≤ 100000) :
    Calls Try.prog 45 #[v] w fun e w' => ∃ u, e = .returned u ∧ OwS w.heap.size w' u Ls.flatten ∧ Below w.heap.size w w' := by
  obtain ⟨i0, hi, hz0, hz1, hz2⟩ := info_parts info_strokeZ
  obtain ⟨oa, cap, rfl, hcap, hg⟩ := hv
  have HP : Hid (∀ k, k < Ls.length → ∃ (M : List St) (oM : Option Addr) (cM hb ho : Nat), oa = some ⟨hb, ho, none⟩ ∧ hb < w.heap.size ∧ w.cell? ⟨hb, ho + k, none⟩ = some (.slice oM M.length cM) ∧ LsS w (.slice oM M.length cM) M ∧ NoNil (.slice oM M.length cM) ∧ M.length ≤ 100000 ∧ (Ls.take (k + 1)).flatten = (Ls.take k).flatten ++ M ∧ (Ls.take k).flatten.length + M.length ≤ 100000) := by
    intro k hk
    obtain ⟨hb, ho, e, hlt, hat⟩ := hg (by omega)
    obtain ⟨u, hc, hl, hnn⟩ := hat k hk
    obtain ⟨oM, cM, rfl, hcM, hgM⟩ := id hl
    have e1 : (Ls.take (k + 1)).flatten = (Ls.take k).flatten ++ Ls[k] := by
      rw [← List.take_append_getElem hk, List.flatten_append]; simp
    have e2 : (Ls.take k).flatten.length + Ls[k].length ≤ 100000 := by
      rw [← List.length_append, ← e1]
      have : Ls.flatten = (Ls.take (k + 1)).flatten ++ (Ls.drop (k + 1)).flatten := by rw [← List.flatten_append, List.take_append_drop]
      rw [this, List.length_append] at ht
      omega
    exact ⟨Ls[k], oM, cM, hb, ho, e, hlt, hc, hl, hnn, by omega, e1, e2⟩
  have HEnd : Hid ((Ls.take Ls.length).flatten = Ls.flatten) := by unfold Hid; rw [List.take_length]
  have HGr : Hid (∀ n : Nat, n ≤ 1000000 → Calls Try.prog 72 #[.slice none 0 0, .int .i64 n] w fun e w' => ∃ u, e = .returned u ∧ w'.ownsRow w.heap.size 31 15 u 0 [] ∧ Below w.heap.size w w') := fun n h => growZ_any n w h
  obtain ⟨N, hN⟩ : ∃ N, N = Ls.length := ⟨_, rfl⟩
  have HN : Hid (N = Ls.length) := hN
  rw [← hN] at hcap hn HP HEnd ⊢
  clear hg hN
  go_enter Try.func45, Try.ntmps45
  go_wp2_with fail
  go_loopw [3, 11] (fun s i wr => ∃ (k n : Nat), k ≤ N ∧ i = .int .i64 k ∧ s = .int .i64 n ∧ n ≤ 100000 ∧ Hid (n = ((Ls.take k).flatten).length) ∧ wr = w) (fun _ i _ => N - (intOf i).toNat)
  case atStart => exact ⟨0, 0, by omega, rfl, rfl, by omega, by unfold Hid; simp, rfl⟩
  case round =>
    obtain ⟨k, n, hk, rfl, rfl, hn1, HNn, rfl⟩ := hrel
    by_cases hlt : k < N
    · have ik : (k : Int) < N := by omega
      obtain ⟨M, oM, cM, hb, ho, rfl, hlb, hcell, _, _, hMl, hacc, hal⟩ := HP.out k hlt
      have hnm : n + M.length ≤ 100000 := by rw [HNn.out]; exact hal
      have HRel : Hid (∃ (k' n' : Nat), k' ≤ N ∧ Value.int .i64 ((k : Int) + 1) = .int .i64 k' ∧ Value.int .i64 ((n : Int) + (M.length : Int)) = .int .i64 n' ∧ n' ≤ 100000 ∧ Hid (n' = ((Ls.take k').flatten).length) ∧ True) := ⟨k + 1, n + M.length, by omega, by go_num, by rw [Int.natCast_add], hnm, by unfold Hid; rw [hacc, List.length_append, HNn.out], trivial⟩
      clear hacc hal HNn
      go_wp2
      go_roundw
      case rel => exact HRel.out
      case measure => simp [intOf]; omega
    · obtain rfl : k = N := by omega
      have ik : ¬ (k : Int) < k := by omega
      have HG3 : Hid (Calls Try.prog 72 #[.slice none 0 0, .int .i64 n] wr fun e w' => ∃ u, e = .returned u ∧ w'.ownsRow wr.heap.size 31 15 u 0 [] ∧ Below wr.heap.size wr w') := HGr.out n (by omega)
      clear HGr HNn
      go_wp2_with fail
      refine HG3.out.mono ?_
      rintro e w1 ⟨u1, rfl, hu1, hb1⟩
      have HC0 : Hid (OwS wr.heap.size w1 u1 ((Ls.take 0).flatten) ∧ Below wr.heap.size wr w1) := ⟨hu1, hb1⟩
      clear hu1 hb1 HG3
      obtain ⟨ww, hww⟩ : ∃ ww : World, ww = wr := ⟨_, rfl⟩
      rw [← hww] at HC0 HP
      have Hww : Hid (ww = wr) := hww
      clear hww
      go_wp2_with fail
      go_loopw [6, 27] (fun v i wq => ∃ j : Nat, i = .int .i64 j ∧ j ≤ k ∧ Hid (OwS ww.heap.size wq v ((Ls.take j).flatten) ∧ Below ww.heap.size ww wq)) (fun _ i _ => k - (intOf i).toNat)
      case atStart => exact ⟨0, rfl, Nat.zero_le _, HC0⟩
      case round =>
        clear HC0
        obtain ⟨j, rfl, hj, HR⟩ := hrel
        by_cases hlt2 : j < k
        · have ij : (j : Int) < k := by omega
          obtain ⟨M, oM, cM, hb, ho, rfl, hlb, hcell, hM, hMn, hMl, hacc, hal⟩ := HP.out j hlt2
          have hc : wr.cell? ⟨hb, ho + j, none⟩ = some (.slice oM M.length cM) := (HR.out.2.cell (p := ⟨hb, ho + j, none⟩) hlb).trans hcell
          obtain ⟨acc, hac⟩ : ∃ acc, acc = (Ls.take j).flatten := ⟨_, rfl⟩
          rw [← hac] at hacc hal
          have HA : Hid ((Ls.take (j + 1)).flatten = acc ++ M) := hacc
          have HO : Hid (wr.ownsRow ww.heap.size 31 15 u6 acc.length (flatZ acc) ∧ Below ww.heap.size ww wr ∧ ww.heap.size ≤ wr.heap.size ∧ LsS wr (.slice oM M.length cM) M ∧ NoNil (.slice oM M.length cM)) := by
            have h := HR.out.1
            rw [← hac] at h
            exact ⟨h, HR.out.2, HR.out.2.size, hM.below HR.out.2, hMn⟩
          clear HR hac hacc hcell hM hMn
          go_wp2_with (at_builtin; refine app_moreS rfl _ _ rfl i0 Try.underlying36 hi hz0 hz1 hz2 ww.heap.size u6 acc acc.length rfl rfl HO.out.1 HO.out.2.2.1 M oM cM M.length rfl rfl HO.out.2.2.2.1 HO.out.2.2.2.2 (by omega) ?_)
          intro v' w4 H4
          have HRel : Hid (OwS ww.heap.size w4 v' ((Ls.take (j + 1)).flatten) ∧ Below ww.heap.size ww w4) := by
            refine ⟨by rw [HA.out]; exact H4.out.1, HO.out.2.1.grown H4.out.2 HO.out.2.2.1 (fun g hg => (row_lt HO.out.1 g hg).1)⟩
          clear H4 HO
          go_wp2
          go_roundw
          case rel => exact ⟨j + 1, by go_num, by omega, HRel⟩
          case measure => simp [intOf]; omega
        · obtain rfl : j = k := by omega
          have ij : ¬ (j : Int) < j := by omega
          have HF : Hid (OwS ww.heap.size wr u6 Ls.flatten ∧ Below ww.heap.size ww wr) := by rw [← HEnd.out]; exact HR.out
          rw [Hww.out] at HF
          clear HR
          go_wp2
          go_ret
          exact ⟨_, rfl, HF.out.1, HF.out.2⟩

set_option maxRecDepth 10000 in
set_option maxHeartbeats 4000000 in
theorem clone_any (l : List St) (v : Value) (w : World) (hv : LsS w v l) (hn : NoNil v) (hl : l.length ≤ 100000) :
    Calls Try.prog 43 #[v] w fun e w' => ∃ u, e = .returned u ∧ OwS w.heap.size w' u l ∧ Below w.heap.size w w' := by
  obtain ⟨i0, hi, hz0, hz1, hz2⟩ := info_parts info_strokeZ
  obtain ⟨oa, cap, rfl, hc, hg⟩ := id hv
  have HV : Hid (LsS w (.slice oa l.length cap) l ∧ NoNil (.slice oa l.length cap)) := ⟨hv, hn⟩
  cases oa with
  | none =>
    have h0 : l = [] := by
      cases l with
      | nil => rfl
      | cons r t =>
        obtain ⟨g, o, e2, _⟩ := hg (by simp)
        cases e2
    subst h0
    obtain rfl : cap = 0 := hn cap rfl
    clear hg hv hn HV
    have EN := nil_eq
    go_enter Try.func43, Try.ntmps43
    go_wp2
    go_ret
    exact ⟨_, rfl, OwS.nil _ _, Below.refl _ _⟩
  | some ad =>
    clear hg hv hn
    have HB : Hid (Below w.heap.size w (w.alloc (.cells #[] 31))) := (Below.refl _ _).alloc (Nat.le_refl _) _
    have HO : Hid ((w.alloc (.cells #[] 31)).ownsRow w.heap.size 31 15 (.slice (some ⟨w.heap.size, 0, none⟩) 0 0) 0 (flatZ [])) := ⟨rfl, .inr ⟨w.heap.size, 0, #[], rfl, Nat.le_refl _, Bk.new _ _ _, Nat.le_refl _, by unfold maxLen; omega, rfl, rfl⟩⟩
    have EN2 := fun W => nil_ne ad l.length cap W
    go_enter Try.func43, Try.ntmps43
    go_wp2_with (at_builtin; refine app_moreS rfl _ _ rfl i0 Try.underlying36 hi hz0 hz1 hz2 w.heap.size (.slice (some ⟨w.heap.size, 0, none⟩) 0 0) [] 0 rfl rfl HO.out HB.out.size l (some ad) cap l.length rfl rfl (HV.out.1.below HB.out) HV.out.2 (by omega) ?_)
    intro v' w4 H4
    have HF : Hid (OwS w.heap.size w4 v' l ∧ Below w.heap.size w w4) := ⟨H4.out.1, HB.out.grown H4.out.2 HB.out.size (fun g hg => (row_lt HO.out g hg).1)⟩
    clear H4 HO HB hi hz0 hz1 hz2
    go_wp2
    go_ret
    exact ⟨_, rfl, HF.out.1, HF.out.2⟩

end Go.Proofs.Ytbghjmkgicdnoaa
