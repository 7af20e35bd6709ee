/-
  FlexRows: any sizes with gaps, any row; what is handed in stays, what is answered is new memory.
-/
import Derived.Test.YtchjmmchflbfcaaXT
namespace Go.Proofs.Ytchjmmchflbfcaa
open Go.RowKit

/-- Numbers of one's own, one more behind them. -/
def InI (lo : Nat) (W : World) (g cap : Nat) (ys : List Int) : Prop := W.ownsRow lo 3 1 (.slice (some ⟨g, 0, none⟩) (ys.length + 1) cap) (ys.length + 1) (flatI (ys ++ [77]))
theorem InI.below {lo : Nat} {W W' : World} {g cap : Nat} {ys : List Int} (h : InI lo W g cap ys) (hb : Below W.heap.size W W') : InI lo W' g cap ys := row_below h hb
theorem InI.lt {lo : Nat} {W : World} {g cap : Nat} {ys : List Int} (h : InI lo W g cap ys) : lo ≤ g ∧ g < W.heap.size ∧ ys.length + 1 ≤ cap := by
  obtain ⟨_, _, e, hc, _⟩ := row_val h
  injection e with _ _ e
  subst e
  have := row_lt h g rfl
  exact ⟨this.1, this.2, hc⟩
theorem InI.at {lo : Nat} {W : World} {g cap : Nat} {ys : List Int} (h : InI lo W g cap ys) : (∀ i (hi : i < ys.length), W.cell? ⟨g, i, none⟩ = some (.int .i64 ys[i])) ∧ W.cell? ⟨g, ys.length, none⟩ = some (.int .i64 77) := by
  have key : ∀ i (hi : i < (ys ++ [77]).length), W.cell? ⟨g, i, none⟩ = some (.int .i64 (ys ++ [77])[i]) := fun i hi => by
    have hl : i < ys.length + 1 := by simpa using hi
    rw [own_cell h i (by omega), flatI_at _ _ hi]
  refine ⟨fun i hi => ?_, ?_⟩
  · have := key i (by simp; omega)
    rwa [List.getElem_append_left hi] at this
  · have := key ys.length (by simp)
    simpa using this
theorem InI.is {lo : Nat} {W : World} {g cap : Nat} {ys : List Int} (h : InI lo W g cap ys) : IS W (.slice (some ⟨g, 0, none⟩) ys.length cap) ys := by
  have h1 := h.lt
  exact ⟨_, cap, rfl, by omega, fun _ => ⟨g, 0, rfl, h1.2.1, fun i hi => by rw [Nat.zero_add]; exact h.at.1 i hi⟩⟩
theorem InI.kept {lo lo2 hi2 : Nat} {W W' : World} {g cap : Nat} {xs : List Int} {v : Value} {ys : List Int} (h : InI lo W g cap xs) (k : RwI lo2 hi2 W v ys) (hd : g < lo2) (hg : W.grownBy W' v.ownBlock) : InI lo W' g cap xs := by
  refine World.ownsRow.kept h hg (.inr fun c => ?_)
  have h4 := (row_lt k.1 g c.symm).1
  omega
theorem own_apart {lo : Nat} {W W' : World} {u v : Value} {xs ys : List Int} (h : OwI lo W u xs) (hne : 0 < ys.length → v.ownBlock ≠ u.ownBlock) (hl : xs.length = ys.length) (hg : W.grownBy W' v.ownBlock) : IS W' u xs := by
  by_cases h0 : 0 < ys.length
  · exact OwI.is (World.ownsRow.kept h hg (.inr fun e => hne h0 e.symm))
  · obtain rfl : xs = [] := List.length_eq_zero_iff.1 (by omega)
    obtain ⟨oa, cap, e, hc, _⟩ := row_val h
    exact ⟨oa, cap, e, hc, fun h => absurd h (by simp)⟩
theorem st_small {xs : List Int} {gap : Int} : (stL xs gap).length ≤ 1024 := by
  unfold stL
  by_cases h : chS xs = 0
  · rw [if_pos h]
    split
    · rw [bgs_len]; exact (chS_zero h).1
    · simp
  · rw [if_neg h]; simp
theorem rw_small {T : List Tk} {gap room : Int} : (rwL T gap room).length ≤ 1024 := by
  unfold rwL
  by_cases h : chT T = 0
  · rw [if_pos h]
    split
    · rw [shaR_len (chT_zero h).2]; exact (chT_zero h).1
    · simp
  · rw [if_neg h]; simp
theorem rows_len {T : List Tk} {gap room : Int} : (rwS T gap room).length = (rwL T gap room).length := by unfold rwS; rw [bgs_len]

set_option maxRecDepth 10000 in
set_option maxHeartbeats 8000000 in
theorem rows_walk (ys : List Int) (T : List Tk) (gap room : Int) (sv tv : Value) (w : World) (hS : IS w sv ys) (hsn : NoNil sv) (hT : TS w tv T) (hnn : NoNil tv) (hly : ys.length ≤ 9223372036854775807) (hlen : T.length ≤ 9223372036854775807) :
    Calls Try.prog 5 #[sv, tv, .int .i64 gap, .int .i64 room] w fun e w' => e = .returned (.bool true) ∧ Below w.heap.size w w' := by
  have HTS : Hid (TS w tv T ∧ IS w sv ys ∧ NoNil sv) := ⟨hT, hS, hsn⟩
  have HOw : Hid (T.length ≤ 5000 → Calls Try.prog 16 #[tv] w fun e w' => ∃ g cap, e = .returned (.slice (some ⟨g, 0, none⟩) (T.length + 1) cap) ∧ Hid (Inn w.heap.size w' g cap T ∧ Below w.heap.size w w')) := fun h => own_any T tv w hT hnn h
  obtain ⟨oa, oc, rfl, hoc, _⟩ := hT
  obtain ⟨sa, sc, rfl, hsc, _⟩ := hS
  have HB0 : Hid (Below w.heap.size w w) := Below.refl _ _
  by_cases h5 : 5000 < T.length
  · have i5 : (5000 : Int) < T.length := by omega
    clear HOw hsn hnn
    go_enter Try.func5, Try.ntmps5
    go_wp2
    go_ret
    exact ⟨rfl, HB0.out⟩
  have i5 : ¬ (5000 : Int) < T.length := by omega
  by_cases h6 : 5000 < ys.length
  · have i6 : (5000 : Int) < ys.length := by omega
    clear HOw hsn hnn
    go_enter Try.func5, Try.ntmps5
    go_wp2
    go_ret
    exact ⟨rfl, HB0.out⟩
  have i6 : ¬ (5000 : Int) < ys.length := by omega
  have hl5 : T.length ≤ 5000 := by omega
  have HO := HOw.out hl5
  obtain ⟨az, ae, HA⟩ : ∃ az ae, Hid (az = stL ys gap ∧ ae = stE ys gap) := ⟨stL ys gap, stE ys gap, rfl, rfl⟩
  obtain ⟨cs, ds, ce, HC⟩ : ∃ cs ds ce, Hid (cs = rwL T gap room ∧ ds = rwS T gap room ∧ ce = rwE T gap room) := ⟨rwL T gap room, rwS T gap room, rwE T gap room, rfl, rfl, rfl⟩
  have has : az.length ≤ 1024 := by rw [HA.out.1]; exact st_small
  have hcs : cs.length ≤ 1024 := by rw [HC.out.1]; exact rw_small
  have hds : ds.length = cs.length := by rw [HC.out.1, HC.out.2.1]; exact rows_len
  have A1 : Hid (∀ W v, IS W v ys → Calls Try.prog 12 #[v, .int .i64 gap] W fun e w' => AnsI W az ae e w') := fun W v h => by rw [HA.out.1, HA.out.2]; exact Starts_any ys gap v W h
  have A2 : Hid (∀ W v, IS W v ys → Calls Try.prog 22 #[v, .int .i64 gap] W fun e w' => AnsI W az ae e w') := fun W v h => by rw [HA.out.1, HA.out.2]; exact rStarts_any ys gap v W h
  have A3 : Hid (∀ W v, TS W v T → Calls Try.prog 13 #[v, .int .i64 gap, .int .i64 room] W fun e w' => AnsR W cs ds ce e w') := fun W v h => by rw [HC.out.1, HC.out.2.1, HC.out.2.2]; exact Row_any T gap room v W h
  have A4 : Hid (∀ W v, TS W v T → Calls Try.prog 23 #[v, .int .i64 gap, .int .i64 room] W fun e w' => AnsD W cs ds ce e w') := fun W v h => by rw [HC.out.1, HC.out.2.1, HC.out.2.2]; exact rRow_any T gap room v W h
  have A7 : Hid (∀ (l : List Int) W v u, l.length ≤ 5000 → IS W v l → IS W u l → Calls Try.prog 18 #[v, u] W fun e w' => e = .returned (.bool true) ∧ Below W.heap.size W w') := fun l W v u hl h k => by
    have := same_any l l v u W h k (by omega)
    rwa [decide_eq_true rfl] at this
  have A8 : Hid (∀ W g cap v, Inn w.heap.size W g cap T → TS W v T → Calls Try.prog 21 #[.slice (some ⟨g, 0, none⟩) (T.length + 1) cap, v] W fun e w' => e = .returned (.bool true) ∧ Below W.heap.size W w') := fun W g cap v h k => kept_any w.heap.size g cap T v W h k hl5
  obtain ⟨i0, hi, hz0, hz1, hz2⟩ := info_parts info_int
  clear HOw HA HC hsn hnn
  go_enter Try.func5, Try.ntmps5
  go_wp2_with fail
  refine HO.mono ?_
  rintro e w1 ⟨gi, ci, rfl, H1⟩
  have hci : T.length + 1 ≤ ci := H1.out.1.lt.2.2
  have F : Hid (Below w.heap.size w w1 ∧ Inn w.heap.size w1 gi ci T) := ⟨H1.out.2, H1.out.1⟩
  have HSI : Hid (IS w1 (.slice sa ys.length sc) ys ∧ NoNil (.slice sa ys.length sc)) := ⟨HTS.out.2.1.below H1.out.2, HTS.out.2.2⟩
  clear H1 HO
  go_wp2_with (at_builtin; refine app_firstI rfl _ _ rfl i0 Try.underlying22 hi hz0 hz1 hz2 rfl ys sa sc rfl HSI.out.1 HSI.out.2 (by omega) ?_)
  intro v2 w2 H2
  have hc3 : Hid (ys.length + 1 ≤ maxLen) := by unfold Hid maxLen; omega
  have hc4 : Hid ((ys.length + 1) * 8 ≤ 140737488355328) := by unfold Hid; omega
  have HAp : Hid (∀ o, (w2.alloc o).ownsRow w1.heap.size 3 1 v2 ys.length (flatI ys) ∧ Below w1.heap.size w1 (w2.alloc o)) := fun o => ⟨row_below H2.out.1 ((Below.refl _ _).alloc (Nat.le_refl _) _), H2.out.2.alloc H2.out.2.size _⟩
  clear H2
  go_wp2_with (at_builtin; refine wpList_append_own _ rfl _ _ 22 rfl w1.heap.size 3 i0 (.int .i64 0) 1 8 Try.underlying22 hi hz0 hz1 hz2 rfl (by decide) v2 ys.length (flatI ys) rfl (HAp.out _).1 _ 1 1 [.int .i64 77] rfl rfl (cell_oneB _ _ _ _ rfl) (one1 _) hc3.out hc4.out (HAp.out _).2.size ?_)
  intro v3 w3 hown hgrow hnil
  obtain ⟨o3, c3, e3, hc33, hg3⟩ := row_val hown
  obtain ⟨gs, e4, hgs1, hgs2⟩ := hg3 (by omega)
  subst e4
  subst e3
  have G : Hid (Below w.heap.size w w3 ∧ Inn w.heap.size w3 gi ci T ∧ InI w1.heap.size w3 gs c3 ys ∧ gi < w3.heap.size) := by
    have hb3 := app_below (HAp.out _).2 (HAp.out _).1 (Nat.le_refl _) hgrow
    have h2 := F.out.2.below hb3
    refine ⟨F.out.1.trans (hb3.mono F.out.1.size), h2, ?_, h2.lt.2.1⟩
    unfold InI
    rw [flatI_app]
    exact hown
  have hcs3 : ys.length + 1 ≤ c3 := hc33
  clear hown hgrow hnil hi hz0 hz1 hz2 HAp HSI hg3 hgs1 hgs2 F hc33 hc3 hc4 HB0
  go_wp2_with fail
  refine (A1.out _ _ G.out.2.2.1.is).mono ?_
  rintro e w4 ⟨va, rfl, HV⟩
  replace G : Hid (Below w.heap.size w w4 ∧ Inn w.heap.size w4 gi ci T ∧ InI w1.heap.size w4 gs c3 ys ∧ RwI w3.heap.size w4.heap.size w4 va az ∧ gi < w3.heap.size ∧ gs < w3.heap.size ∧ w.heap.size ≤ w3.heap.size) := ⟨G.out.1.trans (HV.out.2.mono G.out.1.size), G.out.2.1.below HV.out.2, G.out.2.2.1.below HV.out.2, rwi_of HV.out.1, G.out.2.2.2, G.out.2.2.1.lt.2.1, G.out.1.size⟩
  have HS34 : Hid (w3.heap.size ≤ w4.heap.size) := HV.out.2.size
  clear HV A1
  go_wp2_with fail
  refine (A2.out _ _ (HTS.out.2.1.below G.out.1)).mono ?_
  rintro e w5 ⟨vb, rfl, HV⟩
  replace G : Hid (Below w.heap.size w w5 ∧ Inn w.heap.size w5 gi ci T ∧ InI w1.heap.size w5 gs c3 ys ∧ RwI w3.heap.size w4.heap.size w5 va az ∧ IS w5 vb az ∧ w4.heap.size ≤ w5.heap.size ∧ gi < w3.heap.size ∧ gs < w3.heap.size ∧ w.heap.size ≤ w3.heap.size) := ⟨G.out.1.trans (HV.out.2.mono G.out.1.size), G.out.2.1.below HV.out.2, G.out.2.2.1.below HV.out.2, G.out.2.2.2.1.below HV.out.2, HV.out.1.is, HV.out.2.size, G.out.2.2.2.2⟩
  clear HV A2
  go_wp2_with fail
  refine (A3.out _ _ G.out.2.1.ts).mono ?_
  rintro e w6 ⟨vc, vd, rfl, HV⟩
  replace G : Hid (Below w.heap.size w w6 ∧ Inn w.heap.size w6 gi ci T ∧ InI w1.heap.size w6 gs c3 ys ∧ RwI w3.heap.size w4.heap.size w6 va az ∧ IS w6 vb az ∧ RwI w5.heap.size w6.heap.size w6 vc cs ∧ RwI w5.heap.size w6.heap.size w6 vd ds ∧ (0 < cs.length → vc.ownBlock ≠ vd.ownBlock) ∧ (w4.heap.size ≤ w5.heap.size ∧ gi < w3.heap.size ∧ gs < w3.heap.size ∧ w.heap.size ≤ w3.heap.size) ∧ w5.heap.size ≤ w6.heap.size) := by
    obtain ⟨g1, g2, g3, g4, g5, g6⟩ := G.out
    obtain ⟨k1, k2, k3, k4⟩ := HV.out
    exact ⟨g1.trans (k4.mono g1.size), g2.below k4, g3.below k4, g4.below k4, g5.below k4, rwi_of k1, rwi_of k2, k3, g6, k4.size⟩
  clear HV A3
  go_wp2_with fail
  refine (A4.out _ _ (HTS.out.1.below G.out.1)).mono ?_
  rintro e w7 ⟨vu, vv, rfl, HV⟩
  have HSz : Hid ((w4.heap.size ≤ w5.heap.size ∧ gi < w3.heap.size ∧ gs < w3.heap.size ∧ w.heap.size ≤ w3.heap.size) ∧ w5.heap.size ≤ w6.heap.size ∧ (0 < cs.length → vc.ownBlock ≠ vd.ownBlock) ∧ w3.heap.size ≤ w5.heap.size) := by
    obtain ⟨_, _, _, _, _, _, _, g8, g9, g10⟩ := G.out
    exact ⟨g9, g10, g8, Nat.le_trans HS34.out g9.1⟩
  replace G : Hid (Below w.heap.size w w7 ∧ Inn w.heap.size w7 gi ci T ∧ InI w1.heap.size w7 gs c3 ys ∧ RwI w3.heap.size w4.heap.size w7 va az ∧ IS w7 vb az ∧ RwI w5.heap.size w6.heap.size w7 vc cs ∧ RwI w5.heap.size w6.heap.size w7 vd ds ∧ IS w7 vu cs ∧ RwI w6.heap.size w7.heap.size w7 vv ds) := by
    obtain ⟨g1, g2, g3, g4, g5, g6, g7, _⟩ := G.out
    obtain ⟨k1, k2, k4⟩ := HV.out
    exact ⟨g1.trans (k4.mono g1.size), g2.below k4, g3.below k4, g4.below k4, g5.below k4, g6.below k4, g7.below k4, k1.is, rwi_of k2⟩
  clear HV A4
  go_wp2_with fail
  refine (A7.out az _ _ _ (by omega) G.out.2.2.2.1.1.is G.out.2.2.2.2.1).mono ?_
  rintro e w8 ⟨rfl, hb⟩
  replace G : Hid (Below w.heap.size w w8 ∧ Inn w.heap.size w8 gi ci T ∧ InI w1.heap.size w8 gs c3 ys ∧ RwI w3.heap.size w4.heap.size w8 va az ∧ RwI w5.heap.size w6.heap.size w8 vc cs ∧ RwI w5.heap.size w6.heap.size w8 vd ds ∧ IS w8 vu cs ∧ RwI w6.heap.size w7.heap.size w8 vv ds) := by
    obtain ⟨g1, g2, g3, g4, _, g6, g7, g8, g9⟩ := G.out
    exact ⟨g1.trans (hb.mono g1.size), g2.below hb, g3.below hb, g4.below hb, g6.below hb, g7.below hb, g8.below hb, g9.below hb⟩
  clear hb
  go_wp2_with fail
  refine (A7.out cs _ _ _ (by omega) G.out.2.2.2.2.1.1.is G.out.2.2.2.2.2.2.1).mono ?_
  rintro e w9 ⟨rfl, hb⟩
  replace G : Hid (Below w.heap.size w w9 ∧ Inn w.heap.size w9 gi ci T ∧ InI w1.heap.size w9 gs c3 ys ∧ RwI w3.heap.size w4.heap.size w9 va az ∧ RwI w5.heap.size w6.heap.size w9 vc cs ∧ RwI w5.heap.size w6.heap.size w9 vd ds ∧ RwI w6.heap.size w7.heap.size w9 vv ds) := by
    obtain ⟨g1, g2, g3, g4, g6, g7, _, g9⟩ := G.out
    exact ⟨g1.trans (hb.mono g1.size), g2.below hb, g3.below hb, g4.below hb, g6.below hb, g7.below hb, g9.below hb⟩
  clear hb
  go_wp2_with fail
  refine (A7.out ds _ _ _ (by omega) G.out.2.2.2.2.2.1.1.is G.out.2.2.2.2.2.2.1.is).mono ?_
  rintro e w10 ⟨rfl, hb⟩
  replace G : Hid (Below w.heap.size w w10 ∧ Inn w.heap.size w10 gi ci T ∧ InI w1.heap.size w10 gs c3 ys ∧ RwI w3.heap.size w4.heap.size w10 va az ∧ RwI w5.heap.size w6.heap.size w10 vc cs ∧ RwI w5.heap.size w6.heap.size w10 vd ds ∧ RwI w6.heap.size w7.heap.size w10 vv ds) := by
    obtain ⟨g1, g2, g3, g4, g6, g7, g9⟩ := G.out
    exact ⟨g1.trans (hb.mono g1.size), g2.below hb, g3.below hb, g4.below hb, g6.below hb, g7.below hb, g9.below hb⟩
  clear hb
  obtain ⟨aa, ac, e, hac, hag⟩ := row_val G.out.2.2.2.1.1
  subst e
  obtain ⟨ca, cc, e, hcc, hcg⟩ := row_val G.out.2.2.2.2.1.1
  subst e
  have HAg : Hid (0 < az.length → ∃ g, aa = some ⟨g, 0, none⟩) := fun h => by
    obtain ⟨g, e, _⟩ := hag h
    exact ⟨g, e⟩
  have HCg : Hid (0 < cs.length → ∃ g, ca = some ⟨g, 0, none⟩) := fun h => by
    obtain ⟨g, e, _⟩ := hcg h
    exact ⟨g, e⟩
  have H0 : Hid (Ovr w10 w3.heap.size az.length (.slice aa az.length ac) w10) := ⟨World.grownBy.refl _ _, az, rfl, G.out.2.2.2.1.1⟩
  clear hag hcg
  go_wp2_with fail
  go_loopw [21] (fun i wr => ∃ k : Nat, i = .int .i64 k ∧ k ≤ az.length ∧ Hid (Ovr w10 w3.heap.size az.length (.slice aa az.length ac) wr)) (fun i _ => az.length - (intOf i).toNat)
  case atStart => exact ⟨0, rfl, Nat.zero_le _, H0⟩
  case round =>
    obtain ⟨k, rfl, hk, HR⟩ := hrel
    clear H0
    by_cases hlt : k < az.length
    · have ik : (k : Int) < az.length := by omega
      obtain ⟨g, rfl⟩ := HAg.out (by omega)
      obtain ⟨⟨z, c0⟩, f0⟩ := HR.out.at k hlt
      have HN : Hid (Ovr w10 w3.heap.size az.length (.slice (some ⟨g, 0, none⟩) az.length ac) (wr.setCell ⟨g, k, none⟩ (.int .i64 77))) := HR.out.put k 77
      clear HR
      go_wp2
      exact ⟨⟨k + 1, by go_num, by omega, HN⟩, by simp [intOf]; omega⟩
    · obtain rfl : k = az.length := by omega
      generalize wr = w11 at *
      replace G : Hid (Below w.heap.size w w11 ∧ Inn w.heap.size w11 gi ci T ∧ InI w1.heap.size w11 gs c3 ys ∧ RwI w5.heap.size w6.heap.size w11 (.slice ca cs.length cc) cs ∧ RwI w5.heap.size w6.heap.size w11 vd ds ∧ RwI w6.heap.size w7.heap.size w11 vv ds) := by
        obtain ⟨g1, g2, g3, g4, g6, g7, g9⟩ := G.out
        obtain ⟨⟨s1, s2, s3, s4⟩, s5, _, _⟩ := HSz.out
        have hg := HR.out.1
        exact ⟨grow_belowI g1 g4 s4 g1.size hg, g2.kept g4 s2 hg, g3.kept g4 s3 hg, g6.kept g4 (.inr s1) hg, g7.kept g4 (.inr s1) hg, g9.kept g4 (.inr (Nat.le_trans s1 s5)) hg⟩
      have H0 : Hid (Ovr w11 w5.heap.size cs.length (.slice ca cs.length cc) w11) := ⟨World.grownBy.refl _ _, cs, rfl, G.out.2.2.2.1.1⟩
      clear HR
      go_wp2_with fail
      go_loopw [22] (fun i wr => ∃ k : Nat, i = .int .i64 k ∧ k ≤ cs.length ∧ Hid (Ovr w11 w5.heap.size cs.length (.slice ca cs.length cc) wr)) (fun i _ => cs.length - (intOf i).toNat)
      case atStart => exact ⟨0, rfl, Nat.zero_le _, H0⟩
      case round =>
        obtain ⟨k, rfl, hk2, HR⟩ := hrel
        clear H0
        by_cases hlt : k < cs.length
        · have ik : (k : Int) < cs.length := by omega
          obtain ⟨g, rfl⟩ := HCg.out (by omega)
          obtain ⟨⟨z, c0⟩, f0⟩ := HR.out.at k hlt
          have HN : Hid (Ovr w11 w5.heap.size cs.length (.slice (some ⟨g, 0, none⟩) cs.length cc) (wr.setCell ⟨g, k, none⟩ (.int .i64 77))) := HR.out.put k 77
          clear HR
          go_wp2
          exact ⟨⟨k + 1, by go_num, by omega, HN⟩, by simp [intOf]; omega⟩
        · obtain rfl : k = cs.length := by omega
          generalize wr = w12 at *
          replace G : Hid (Below w.heap.size w w12 ∧ Inn w.heap.size w12 gi ci T ∧ InI w1.heap.size w12 gs c3 ys ∧ IS w12 vd ds ∧ IS w12 vv ds) := by
            obtain ⟨g1, g2, g3, g6, g7, g9⟩ := G.out
            obtain ⟨⟨s1, s2, s3, s4⟩, s5, s6, s7⟩ := HSz.out
            have hg := HR.out.1
            exact ⟨grow_belowI g1 g6 (Nat.le_trans s4 s7) g1.size hg, g2.kept g6 (Nat.lt_of_lt_of_le s2 s7) hg, g3.kept g6 (Nat.lt_of_lt_of_le s3 s7) hg, own_apart g7.1 s6 hds hg, (g9.kept g6 (.inr (Nat.le_refl _)) hg).1.is⟩
          clear HR HSz
          go_wp2_with fail
          refine (A7.out ds _ _ _ (by omega) G.out.2.2.2.1 G.out.2.2.2.2).mono ?_
          rintro e w13 ⟨rfl, hb⟩
          replace G : Hid (Below w.heap.size w w13 ∧ Inn w.heap.size w13 gi ci T ∧ InI w1.heap.size w13 gs c3 ys) := ⟨G.out.1.trans (hb.mono G.out.1.size), G.out.2.1.below hb, G.out.2.2.1.below hb⟩
          clear hb
          go_wp2_with fail
          refine (A8.out _ _ _ _ G.out.2.1 (HTS.out.1.below G.out.1)).mono ?_
          rintro e w14 ⟨rfl, hb⟩
          replace G : Hid (Below w.heap.size w w14 ∧ InI w1.heap.size w14 gs c3 ys) := ⟨G.out.1.trans (hb.mono G.out.1.size), G.out.2.2.below hb⟩
          clear hb A8
          go_wp2_with fail
          refine (A7.out ys _ _ _ (by omega) G.out.2.is (HTS.out.2.1.below G.out.1)).mono ?_
          rintro e w15 ⟨rfl, hb⟩
          have HF : Hid (Below w.heap.size w w15) := G.out.1.trans (hb.mono G.out.1.size)
          have m0 := (G.out.2.below hb).at.2
          have iy : (ys.length : Int) < (ys.length : Int) + 1 := by omega
          clear hb A7 G
          go_wp2
          go_ret
          exact ⟨rfl, HF.out⟩

end Go.Proofs.Ytchjmmchflbfcaa
