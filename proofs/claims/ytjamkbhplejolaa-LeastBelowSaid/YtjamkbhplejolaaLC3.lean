/-
  slices.Min, Index, Grow, Concat; begunWithLeast.
-/
import Derived.Test.YtjamkbhplejolaaLC2
namespace Go.Proofs.Ytjamkbhplejolaa
open Go.RowKit Go.Shelf
attribute [local go_sem] ite_max ite_min

set_option maxHeartbeats 1000000 in
theorem min_any (xs : List Int) (v : Value) (w : World) (hv : IS w v xs) (hp : 0 < xs.length) (hl : xs.length ≤ 4096) (f : Nat) (hf : f < xs.length) (hm : ∀ j (h : j < xs.length), xs[f] ≤ xs[j]) :
    Calls Try.prog 44 #[v] w fun e w' => e = .returned (.int .i64 xs[f]) ∧ w' = w := by
  obtain ⟨oa, cap, rfl, hc, hg⟩ := hv
  obtain ⟨g, o, rfl, hgl, hat⟩ := hg hp
  have HA : Hid (∀ i (h : i < xs.length), w.cell? ⟨g, o + i, none⟩ = some (.int .i64 xs[i])) := hat
  have x0 := hat 0 hp
  rw [Nat.add_zero] at x0
  have HM : Hid (∀ m : Int, (∃ j, ∃ h : j < xs.length, xs[j] = m) → (∀ j (h : j < xs.length), m ≤ xs[j]) → m = xs[f]) := fun m ⟨j, h, e⟩ h2 => by
    have a := h2 f hf
    have b := hm j h
    omega
  have H0 : Hid (∃ j, ∃ h : j < xs.length, xs[j] = xs[0]) := ⟨0, hp, rfl⟩
  have ip : ¬ (xs.length : Int) < 1 := by omega
  have HF : Hid (∀ j (h : j < xs.length), j < 1 → xs[0] ≤ xs[j]) := fun j h hj => by
    obtain rfl : j = 0 := by omega
    exact Int.le_refl _
  generalize xs[f] = R at *
  generalize xs[0] = z at *
  clear hat hg hm
  go_enter Try.func44, Try.ntmps44
  go_wp2_with fail
  go_loopw [3, 4] (fun m i wr => ∃ (k : Nat) (z : Int), i = .int .i64 k ∧ m = .int .i64 z ∧ 1 ≤ k ∧ k ≤ xs.length ∧ wr = w ∧ Hid ((∃ j, ∃ h : j < xs.length, xs[j] = z) ∧ ∀ j (h : j < xs.length), j < k → z ≤ xs[j])) (fun _ i _ => xs.length - (intOf i).toNat)
  case atStart => exact ⟨1, z, rfl, rfl, Nat.le_refl _, by omega, rfl, H0.out, HF.out⟩
  case round =>
    obtain ⟨k, y, rfl, rfl, hk1, hk2, rfl, HR⟩ := hrel
    clear H0 HF
    by_cases hlt : k < xs.length
    · have ik : (k : Int) < xs.length := by omega
      have xk := HA.out k hlt
      have HN : Hid ((∃ j, ∃ h : j < xs.length, xs[j] = min y xs[k]) ∧ ∀ j (h : j < xs.length), j < k + 1 → min y xs[k] ≤ xs[j]) := by
        obtain ⟨⟨j, h, e⟩, h2⟩ := HR.out
        refine ⟨?_, fun i hi hik => ?_⟩
        · by_cases c : y ≤ xs[k]
          · exact ⟨j, h, by rw [e]; omega⟩
          · exact ⟨k, hlt, by omega⟩
        · by_cases c : i < k
          · have := h2 i hi c; omega
          · obtain rfl : i = k := by omega
            omega
      generalize xs[k] = p at *
      clear HR
      go_wp2
      exact ⟨⟨k + 1, _, by go_num, rfl, by omega, by omega, trivial, HN.out⟩, by simp [intOf]; omega⟩
    · obtain rfl : k = xs.length := by omega
      have HE : Hid (y = R) := HM.out y HR.out.1 (fun j h => HR.out.2 j h h)
      clear HR
      go_wp2
      go_ret
      exact ⟨by rw [← HE.out]; rfl, rfl⟩

set_option maxHeartbeats 1000000 in
theorem index_any (xs : List Int) (v : Value) (w : World) (hv : IS w v xs) (hl : xs.length ≤ 4096) (f : Nat) (hf : f < xs.length) (hn : ∀ j (h : j < xs.length), j < f → xs[j] ≠ xs[f]) :
    Calls Try.prog 43 #[v, .int .i64 xs[f]] w fun e w' => e = .returned (.int .i64 f) ∧ w' = w := by
  obtain ⟨oa, cap, rfl, hc, hg⟩ := hv
  obtain ⟨g, o, rfl, hgl, hat⟩ := hg (by omega)
  have HA : Hid (∀ i (h : i < xs.length), w.cell? ⟨g, o + i, none⟩ = some (.int .i64 xs[i])) := hat
  have HN : Hid (∀ j (h : j < xs.length), j < f → xs[j] ≠ xs[f]) := hn
  obtain ⟨r, Hr⟩ : ∃ r, Hid (r = xs[f]) := ⟨xs[f], by unfold Hid; rfl⟩
  rw [← Hr.out]
  clear hat hg hn
  go_enter Try.func43, Try.ntmps43
  go_wp2_with fail
  go_loopw [8] (fun i wr => ∃ k : Nat, i = .int .i64 k ∧ k ≤ f ∧ wr = w) (fun i _ => xs.length - (intOf i).toNat)
  case atStart => exact ⟨0, rfl, Nat.zero_le _, rfl⟩
  case round =>
    obtain ⟨k, rfl, hk, rfl⟩ := hrel
    have hlt : k < xs.length := by omega
    have ik : (k : Int) < xs.length := by omega
    have xk := HA.out k hlt
    by_cases c : k = f
    · subst c
      have e : wr.cell? ⟨g, o + k, none⟩ = some (.int .i64 r) := by rw [Hr.out]; exact xk
      clear xk
      go_wp2
      go_ret
      exact ⟨rfl, rfl⟩
    · have hne : ¬ r = xs[k] := fun e => HN.out k hlt (by omega) (by rw [← e, Hr.out])
      generalize xs[k] = p at *
      go_wp2
      exact ⟨⟨k + 1, by go_num, by omega, trivial⟩, by simp [intOf]; omega⟩

theorem growI_any (n : Nat) (w : World) (hn : n ≤ 1000000) :
    Calls Try.prog 48 #[.slice none 0 0, .int .i64 n] w fun e w' => ∃ u, e = .returned u ∧ OwI w.heap.size w' u [] ∧ Below w.heap.size w w' := by
  by_cases h0 : n = 0
  · subst h0
    have h := Any8.slices_Grow_room Try.growI none 0 0 0 w (Nat.le_refl _) (by omega) (by omega) (by omega)
    change Calls Try.prog 48 _ _ _ at h
    exact h.mono fun e w' ⟨he, hw⟩ => ⟨_, he, OwI.nil _ _, by rw [hw]; exact Below.refl _ _⟩
  · obtain ⟨i0, hi, hz0, hz1, hz2⟩ := info_parts info_int
    have h := Any8.slices_Grow_grow Try.growI i0 (.int .i64 0) hi hz0 (by rw [hz1]; decide) none 0 0 n [] w (Nat.le_refl _) (by omega) (by rw [hz2]; omega) (by omega) (by simp) (fun _ => rfl) (fun a h => by cases h)
    change Calls Try.prog 48 _ _ _ at h
    refine h.mono fun e w' ⟨he, hw⟩ => ⟨_, he, ?_, ?_⟩
    · have hle := grownCap_le_maxLen w (0 + n) 0 3 (by unfold maxLen; omega)
      refine ⟨rfl, .inr ⟨w.heap.size, _, ([] : List Value).toArray ++ Builtin.zeroCells (Value.int .i64 0).cells (0 + n - 0) ++ Builtin.zeroCells (Value.int .i64 0).cells (grownCap w (0 + n) 0 3 - (0 + n)), rfl, Nat.le_refl _, ?_, Nat.zero_le _, hle, ?_, by simp [flatI]⟩⟩
      · rw [hw]
        exact Bk.new w.drew _ _
      · have hzc : (Value.int .i64 0).cells.size = 1 := rfl
        rw [Array.size_append, Array.size_append, size_zeroCells, size_zeroCells, hzc]
        simp
        have : n ≤ grownCap w n 0 3 := grownCap_ge w n 0 3
        show n + (grownCap w n 0 3 - n) = grownCap w n 0 3
        omega
    · rw [hw]
      exact ((Below.refl _ w).drew).alloc (Nat.le_refl _) _
theorem is_src {w : World} {g o : Nat} {M : List Int} (h : ∀ i (h : i < M.length), w.cell? ⟨g, o + i, none⟩ = some (.int .i64 M[i])) : ∀ (j : Nat) (u : Value), (flatI M)[j]? = some u → w.cell? ((⟨g, o, none⟩ : Addr).add j) = some u := by
  intro j u hj
  have hl : j < (flatI M).length := (List.getElem?_eq_some_iff.1 hj).1
  rw [flatI_len] at hl
  rw [flatI_at M j hl] at hj
  rw [addr_plus, h j hl]
  exact hj
theorem Bk.grownO {W W' : World} {b : Nat} {vs : Array Value} {t : TypeId} (h : Bk W b vs t) {base : Nat} {e : TypeId} {size n : Nat} {u : Value} {xs : List Value} (hr : W.ownsRow base e size u n xs) (he : e ≠ t) (hg : W.grownBy W' u.ownBlock) : Bk W' b vs t := by
  refine h.grown hg ?_
  intro hb
  obtain ⟨_, hr⟩ := hr
  rcases hr with ⟨rfl, _⟩ | ⟨g, cap, cur, rfl, _, hc, _⟩
  · cases hb
  · simp [Value.ownBlock] at hb
    subst hb
    exact he (Bk.typ hc h)

def COut (A B : List Int) (w : World) (hb : Nat) (va vb : Value) (k : Nat) (v : Value) (wr : World) : Prop :=
  k ≤ 2 ∧ OwI w.heap.size wr v (([A, B].take k).flatten) ∧ Below w.heap.size w wr ∧ Bk wr hb #[va, vb] 26

set_option maxRecDepth 10000 in
set_option maxHeartbeats 4000000 in
theorem concat_any (A B : List Int) (va vb : Value) (hb : Nat) (w : World) (hva : IS w va A) (hvb : IS w vb B) (na : NoNil va) (nb : NoNil vb) (hbk : Bk w hb #[va, vb] 26) (hA : A.length ≤ 10000) (hB : B.length ≤ 10000) :
    Calls Try.prog 45 #[.slice (some ⟨hb, 0, none⟩) 2 2] w fun e w' => ∃ u, e = .returned u ∧ OwI w.heap.size w' u (A ++ B) ∧ Below w.heap.size w w' := by
  obtain ⟨i0, hi, hz0, hz1, hz2⟩ := info_parts info_int
  have HI : Hid (Try.prog.info? 3 = some i0 ∧ i0.zero = some (.int .i64 0) ∧ i0.size = 1 ∧ i0.bytes = 8) := ⟨hi, hz0, hz1, hz2⟩
  obtain ⟨oa, ca, rfl, hca, hga⟩ := hva
  obtain ⟨ob, cb, rfl, hcb, hgb⟩ := hvb
  have HP : Hid (∀ k, k < 2 → ∃ (M : List Int) (oM : Option Addr) (cM : Nat), #[Value.slice oa A.length ca, .slice ob B.length cb][k]? = some (.slice oM M.length cM) ∧ (0 < M.length → ∃ g o, oM = some ⟨g, o, none⟩ ∧ g < w.heap.size ∧ ∀ i (h : i < M.length), w.cell? ⟨g, o + i, none⟩ = some (.int .i64 M[i])) ∧ NoNil (.slice oM M.length cM) ∧ M.length ≤ 10000 ∧ ([A, B].take (k + 1)).flatten = ([A, B].take k).flatten ++ M ∧ (([A, B].take k).flatten).length ≤ 10000) := by
    intro k hk
    rcases (show k = 0 ∨ k = 1 by omega) with rfl | rfl
    · exact ⟨A, oa, ca, rfl, hga, na, hA, by simp, by simp⟩
    · exact ⟨B, ob, cb, rfl, hgb, nb, hB, by simp, by simp; omega⟩
  have HK : Hid (Bk w hb #[.slice oa A.length ca, .slice ob B.length cb] 26) := hbk
  have HGr : Hid (∀ n : Nat, n ≤ 1000000 → Calls Try.prog 48 #[.slice none 0 0, .int .i64 n] w fun e w' => ∃ u, e = .returned u ∧ OwI w.heap.size w' u [] ∧ Below w.heap.size w w') := fun n h => growI_any n w h
  clear hi hz0 hz1 hz2 hga hgb na nb hbk
  go_enter Try.func45, Try.ntmps45
  go_wp2_with fail
  go_loopw [3, 11] (fun s i wr => ∃ k : Nat, k ≤ 2 ∧ i = .int .i64 k ∧ s = .int .i64 ((([A, B].take k).flatten).length : Nat) ∧ wr = w) (fun _ i _ => 2 - (intOf i).toNat)
  case atStart => exact ⟨0, by omega, rfl, rfl, rfl⟩
  case round =>
    obtain ⟨k, hk, rfl, rfl, rfl⟩ := hrel
    by_cases hlt : k < 2
    · obtain ⟨M, oM, cM, hcell, _, _, hMl, hacc, hal⟩ := HP.out k hlt
      have hc : wr.cell? ⟨hb, k, none⟩ = some (.slice oM M.length cM) := by rw [HK.out.cell]; exact hcell
      have HN : Hid ((([A, B].take (k + 1)).flatten).length = (([A, B].take k).flatten).length + M.length) := by unfold Hid; rw [hacc, List.length_append]
      generalize (([A, B].take k).flatten).length = n at *
      clear hcell hacc
      have HRel : Hid (∃ k' : Nat, k' ≤ 2 ∧ Value.int .i64 ((k : Int) + 1) = .int .i64 k' ∧ Value.int .i64 ((n : Int) + (M.length : Int)) = .int .i64 ((([A, B].take k').flatten).length : Nat) ∧ True) := ⟨k + 1, by omega, by go_num, by rw [HN.out, Int.natCast_add], trivial⟩
      go_wp2
      go_roundw
      case rel => exact HRel.out
      case measure => simp [intOf]; omega
    · obtain rfl : k = 2 := by omega
      have e2 : ([A, B].take 2).flatten = A ++ B := by simp
      rw [e2]
      have hlen : (A ++ B).length ≤ 20000 := by rw [List.length_append]; omega
      have HG2 := HGr.out (A ++ B).length (by omega)
      have HG3 : Hid (Calls Try.prog 48 #[.slice none 0 0, .int .i64 ((A ++ B).length : Nat)] wr fun e w' => ∃ u, e = .returned u ∧ OwI wr.heap.size w' u [] ∧ Below wr.heap.size wr w') := HG2
      clear HG2 HGr
      obtain ⟨n, hnn⟩ : ∃ n, n = (A ++ B).length := ⟨_, rfl⟩
      rw [← hnn] at HG3 hlen ⊢
      clear hnn
      go_wp2_with fail
      refine HG3.out.mono ?_
      rintro e w1 ⟨u1, rfl, hu1, hb1⟩
      have HC0 : Hid (COut A B wr hb (.slice oa A.length ca) (.slice ob B.length cb) 0 u1 w1) := ⟨by omega, hu1, hb1, HK.out.below hb1⟩
      clear hu1 hb1 HG3
      go_wp2_with fail
      obtain ⟨ww, hww⟩ : ∃ ww : World, ww = wr := ⟨_, rfl⟩
      rw [← hww] at HC0
      have HPw : Hid (∀ k, k < 2 → ∃ (M : List Int) (oM : Option Addr) (cM : Nat), #[Value.slice oa A.length ca, .slice ob B.length cb][k]? = some (.slice oM M.length cM) ∧ (0 < M.length → ∃ g o, oM = some ⟨g, o, none⟩ ∧ g < ww.heap.size ∧ ∀ i (h : i < M.length), ww.cell? ⟨g, o + i, none⟩ = some (.int .i64 M[i])) ∧ NoNil (.slice oM M.length cM) ∧ M.length ≤ 10000 ∧ ([A, B].take (k + 1)).flatten = ([A, B].take k).flatten ++ M ∧ (([A, B].take k).flatten).length ≤ 10000) := by unfold Hid; rw [hww]; exact HP.out
      have Hww : Hid (ww = wr) := hww
      clear hww
      go_loopw [6, 27] (fun v i wq => ∃ k : Nat, i = .int .i64 k ∧ COut A B ww hb (.slice oa A.length ca) (.slice ob B.length cb) k v wq) (fun _ i _ => 2 - (intOf i).toNat)
      case atStart => exact ⟨0, rfl, HC0.out⟩
      case round =>
        obtain ⟨k, rfl, hI⟩ := hrel
        obtain ⟨hk2, hown, hBr, hbk⟩ := hI
        by_cases hlt : k < 2
        · obtain ⟨M, oM, cM, hcell, hM, hMn, hMl, hacc, hal⟩ := HPw.out k hlt
          have hc : wr.cell? ⟨hb, k, none⟩ = some (.slice oM M.length cM) := by rw [hbk.cell]; exact hcell
          obtain ⟨acc, hac⟩ : ∃ acc, acc = ([A, B].take k).flatten := ⟨_, rfl⟩
          rw [← hac] at hown hacc hal
          have HA : Hid (([A, B].take (k + 1)).flatten = acc ++ M) := hacc
          have HO : Hid (wr.ownsRow ww.heap.size 3 1 u6 acc.length (flatI acc) ∧ Below ww.heap.size ww wr ∧ Bk wr hb #[.slice oa A.length ca, .slice ob B.length cb] 26) := ⟨hown, hBr, hbk⟩
          have hsz : ww.heap.size ≤ wr.heap.size := hBr.size
          obtain ⟨hi, hz0, hz1, hz2⟩ := HI.out
          cases oM with
          | none =>
            have hM0 : M = [] := by
              cases hMM : M with
              | nil => rfl
              | cons r t =>
                rw [hMM] at hM
                obtain ⟨g, o, h, _⟩ := hM (by simp)
                cases h
            subst hM0
            obtain rfl : cM = 0 := hMn cM rfl
            have HRel : Hid (∃ k' : Nat, Value.int .i64 ((k : Int) + 1) = .int .i64 k' ∧ COut A B ww hb (.slice oa A.length ca) (.slice ob B.length cb) k' u6 wr) := by
              refine ⟨k + 1, by go_num, by omega, ?_, hBr, hbk⟩
              rw [HA.out, List.append_nil]
              exact hown
            have HOw : Hid (wr.ownsRow ww.heap.size 3 1 u6 acc.length (flatI acc)) := hown
            clear hown hBr hbk hac hacc hM hMn hcell HO
            go_wp2_with (at_builtin; refine app_none rfl _ _ 26 rfl ww.heap.size 3 i0 1 Try.underlying26 hi u6 acc.length (flatI acc) rfl HOw.out rfl ?_)
            exact ⟨HRel.out, by simp [intOf]; omega⟩
          | some ad =>
            have HNw : Hid (∀ (j : Nat) (u : Value), (flatI M)[j]? = some u → wr.cell? (ad.add j) = some u) := by
              intro j u hj
              by_cases hp : 0 < M.length
              · obtain ⟨g, o, h, hg, hat⟩ := hM hp
                injection h with h
                subst h
                exact is_src (fun i hi => (hBr.cell (p := ⟨g, o + i, none⟩) hg).trans (hat i hi)) j u hj
              · have : M = [] := List.eq_nil_of_length_eq_zero (by omega)
                rw [this] at hj
                cases hj
            have hc3 : Hid (acc.length + M.length ≤ maxLen) := by unfold Hid maxLen; omega
            have hc4 : Hid ((acc.length + M.length) * 8 ≤ 140737488355328) := by unfold Hid; omega
            have HOw : Hid (wr.ownsRow ww.heap.size 3 1 u6 acc.length (flatI acc)) := hown
            have HFl : Hid ((flatI M).length = M.length * 1) := by unfold Hid; rw [flatI_len, Nat.mul_one]
            clear hown hBr hbk hac hacc hM hMn hcell
            go_wp2_with (at_builtin; refine wpList_append_own _ rfl _ _ 26 rfl ww.heap.size 3 i0 (.int .i64 0) 1 8 Try.underlying26 hi hz0 hz1 hz2 rfl (by decide) u6 acc.length (flatI acc) rfl HOw.out ad M.length cM (flatI M) rfl HFl.out HNw.out (oneI M) hc3.out hc4.out hsz ?_)
            intro v' w4 hown' hgrow hnil
            have HRel : Hid (∃ k' : Nat, Value.int .i64 ((k : Int) + 1) = .int .i64 k' ∧ COut A B ww hb (.slice oa A.length ca) (.slice ob B.length cb) k' v' w4) := by
              refine ⟨k + 1, by go_num, by omega, ?_, app_below HO.out.2.1 HO.out.1 (Nat.le_refl _) hgrow, HO.out.2.2.grownO HO.out.1 (by decide) hgrow⟩
              unfold OwI
              rw [HA.out, List.length_append, flatI_app]
              exact hown'
            clear hown' hgrow hnil hi hz0 hz1 hz2
            go_wp2
            go_roundw
            case rel => exact HRel.out
            case measure => simp [intOf]; omega
        · obtain rfl : k = 2 := by omega
          have e2 : ([A, B].take 2).flatten = A ++ B := by simp
          rw [e2] at hown
          have HF : Hid (OwI ww.heap.size wr u6 (A ++ B) ∧ Below ww.heap.size ww wr) := ⟨hown, hBr⟩
          rw [Hww.out] at HF
          clear hown hBr hbk
          go_wp2
          go_ret
          exact ⟨_, rfl, HF.out.1, HF.out.2⟩

end Go.Proofs.Ytjamkbhplejolaa
