/-
  Contracts of the document's answer for layer 3: the kind of a piece, the word; the walk of the statement RunesGo.
-/
import Derived.Test.YtbljlebhpbhjjaaDoorF4
namespace Go.Proofs.YtbljlebhpbhjjaaDoor
open Go.RowKit Go.Shelf

/-- The kind of a piece, as the document numbers it. -/
def kindR (r : Int) : Int := if kindI r = 0 then 3 else kindI r
theorem kindI_bd (r : Int) : 0 ≤ kindI r ∧ kindI r ≤ 2 := by
  unfold kindI
  split
  · omega
  · split <;> omega
theorem kindR_eq (a b : Int) : (kindR a == kindR b) = decide (kindI a = kindI b) := by
  have h1 := kindI_bd a
  have h2 := kindI_bd b
  unfold kindR
  rw [Bool.eq_iff_iff]
  simp only [beq_iff_eq, decide_eq_true_eq]
  split <;> split <;> omega

set_option maxHeartbeats 800000 in
theorem rkind_any (a b r c : Int) (w : World) (hlo : -2147483648 ≤ r) (hhi : r ≤ 2147483647) (T : TabsU w) :
    Calls Tryd.prog 50 #[.agg #[.int .i64 a, .int .i64 b, .int .i32 r, .int .i64 c]] w fun e w' => e = .returned (.int .i64 (kindR r)) ∧ Below w.heap.size w w' := by
  have Lb : Below w.heap.size w (w.alloc (.cells #[.int .i64 a, .int .i64 b, .int .i32 r, .int .i64 c] 51)) := (Below.refl _ w).alloc (Nat.le_refl _) _
  have HT : Hid (TabsU (w.alloc (.cells #[.int .i64 a, .int .i64 b, .int .i32 r, .int .i64 c] 51)) ∧ Below w.heap.size w (w.alloc (.cells #[.int .i64 a, .int .i64 b, .int .i32 r, .int .i64 c] 51))) := ⟨T.below Lb, Lb⟩
  clear T Lb
  by_cases h1 : r = 32
  · go_enter Tryd.func50, Tryd.ntmps50
    go_wp2
    go_ret
    exact ⟨ret_int (by simp [kindR, kindI, h1]), (Below.refl _ w).alloc (Nat.le_refl _) _⟩
  by_cases h2 : r = 9
  · go_enter Tryd.func50, Tryd.ntmps50
    go_wp2
    go_ret
    exact ⟨ret_int (by simp [kindR, kindI, h2]), (Below.refl _ w).alloc (Nat.le_refl _) _⟩
  by_cases h3 : r = 10
  · go_enter Tryd.func50, Tryd.ntmps50
    go_wp2
    go_ret
    exact ⟨ret_int (by simp [kindR, kindI, h3]), (Below.refl _ w).alloc (Nat.le_refl _) _⟩
  by_cases h4 : r = 95
  · go_enter Tryd.func50, Tryd.ntmps50
    go_wp2
    go_ret
    exact ⟨ret_int (by simp [kindR, kindI, h4]), (Below.refl _ w).alloc (Nat.le_refl _) _⟩
  have q1 : (r == 32) = false := by simpa using h1
  have q2 : (r == 9) = false := by simpa using h2
  have q3 : (r == 10) = false := by simpa using h3
  have q4 : (r == 95) = false := by simpa using h4
  go_enter Tryd.func50, Tryd.ntmps50
  go_wp2_with fail
  refine (letter_any _ _ hlo hhi HT.out.1).mono ?_
  rintro e w1 ⟨rfl, hb⟩
  have HB : Hid (TabsU w1 ∧ Below w.heap.size w w1) := ⟨HT.out.1.below hb, HT.out.2.trans (hb.mono (by simp))⟩
  clear hb
  cases hl : Lib.isLetterU r
  · go_wp2_with fail
    refine (digit_any _ _ hlo hhi HB.out.1).mono ?_
    rintro e w2 ⟨rfl, hb⟩
    have HC : Hid (Below w.heap.size w w2) := HB.out.2.trans (hb.mono HB.out.2.size)
    clear hb
    cases hd : Lib.isDigitU r
    · go_wp2
      go_ret
      exact ⟨ret_int (by simp [kindR, kindI, h1, h2, h3, h4, hl, hd]), HC.out⟩
    · go_wp2
      go_ret
      exact ⟨ret_int (by simp [kindR, kindI, h1, h2, h3, hd]), HC.out⟩
  · go_wp2
    go_ret
    exact ⟨ret_int (by simp [kindR, kindI, h1, h2, h3, hl]), HB.out.2⟩

set_option maxRecDepth 10000 in
set_option maxHeartbeats 2000000 in
theorem rword_any (s : ByteArray) (p : Int) (w : World) (hs : s.size ≤ 1048576) (U : TabsU w) :
    Calls Tryd.prog 28 #[.string s, .int .i64 p] w fun e w' => e = .returned (.tuple #[.int .i64 ((wdR (pcs s) p).1 : Nat), .bool (wdR (pcs s) p).2]) ∧ Below w.heap.size w w' := by
  have HP : Hid (∀ w, Calls Tryd.prog 33 #[.string s] w fun e w' => ∃ v, e = .returned v ∧ w'.ownsRow w.heap.size 51 4 v (pcs s).length (flatP (pcs s)) ∧ Below w.heap.size w w') := fun w => rpieces_any s w hs
  have hlen := pcs_len s
  have HRU : Hid (∀ x ∈ pcs s, x.r ≤ 1114111) := fun x hx => pcs_rune s x hx
  generalize pcs s = l at *
  go_enter Tryd.func28, Tryd.ntmps28
  go_wp2_with fail
  refine (HP.out _).mono ?_
  rintro e w1 ⟨v, rfl, hown, hb⟩
  obtain ⟨ao, cap, rfl, hcap, hR⟩ := row_at hown
  have HR : Hid (RowAt w1 ao l ∧ TabsU w1 ∧ Below w.heap.size w w1) := ⟨hR, U.below hb, hb⟩
  clear hown hR hb U
  go_wp2
  go_loopw [7] (fun i wr => ∃ k : Nat, k ≤ l.length ∧ i = .int .i64 k ∧ wdR l p = wdR (l.drop k) p ∧ wr = w1) (fun i _ => l.length - (intOf i).toNat)
  case atStart => exact ⟨0, Nat.zero_le _, rfl, by simp, rfl⟩
  case round =>
    obtain ⟨k, hk, rfl, hall, rfl⟩ := hrel
    by_cases hlt : k < l.length
    · obtain ⟨g, hao, c0, c1, c2, c3⟩ := HR.out.1 k hlt
      subst hao
      have hd : wdR (l.drop k) p = if ((l[k].fr : Nat) : Int) ≤ p ∧ p < (l[k].to : Nat) then (wgo (l.drop (k + 1)) (kindI l[k].r) l[k].to, true) else wdR (l.drop (k + 1)) p := by
        rw [List.drop_eq_getElem_cons hlt]; rfl
      have HE : Hid (wdR l p = if ((l[k].fr : Nat) : Int) ≤ p ∧ p < (l[k].to : Nat) then (wgo (l.drop (k + 1)) (kindI l[k].r) l[k].to, true) else wdR (l.drop (k + 1)) p) := by unfold Hid; rw [hall, hd]
      clear hall hd c2 c3
      by_cases h1 : ((l[k].fr : Nat) : Int) ≤ p
      · by_cases h2 : p < (l[k].to : Nat)
        · have HF : Hid (wdR l p = (wgo (l.drop (k + 1)) (kindI l[k].r) l[k].to, true)) := by unfold Hid; rw [HE.out, if_pos ⟨h1, h2⟩]
          clear HE
          go_wp2
          obtain ⟨wo, hwo⟩ : ∃ wo : World, wo = wr := ⟨_, rfl⟩
          go_loopw [8] (fun s8 wq => ∃ j : Nat, k ≤ j ∧ ∃ hj : j < l.length, s8 = .int .i64 j ∧ wgo (l.drop (k + 1)) (kindI l[k].r) l[k].to = wgo (l.drop (j + 1)) (kindI l[k].r) (l[j]'hj).to ∧ RowAt wq (some ⟨g, 0, none⟩) l ∧ TabsU wq ∧ Below w.heap.size w wq) (fun i _ => l.length - (intOf i).toNat)
          case atStart => exact ⟨k, Nat.le_refl _, hlt, rfl, rfl, HR.out.1, HR.out.2.1, HR.out.2.2⟩
          case round =>
            obtain ⟨j, hkj, hj, rfl, hwg, hA, hU, hL⟩ := hrel
            obtain ⟨_, hg1, e0, e1, e2, e3⟩ := hA j hj
            cases hg1
            obtain ⟨_, hg2, f0, f1, f2, f3⟩ := hA k hlt
            cases hg2
            obtain ⟨z, hz⟩ : ∃ z, z = l[j] := ⟨_, rfl⟩
            obtain ⟨x, hx⟩ : ∃ x, x = l[k] := ⟨_, rfl⟩
            rw [← hz] at e0 e1 e2 e3 hwg
            rw [← hx] at f0 f1 f2 f3 hwg
            have hxr : x.r ≤ 1114111 := by rw [hx]; exact HRU.out _ (List.getElem_mem _)
            have HF2 : Hid (wdR l p = (wgo (l.drop (j + 1)) (kindI x.r) z.to, true)) := by
              unfold Hid; rw [HF.out, ← hx, hwg]
            have HA : Hid (RowAt wr (some ⟨g, 0, none⟩) l ∧ TabsU wr ∧ Below w.heap.size w wr) := ⟨hA, hU, hL⟩
            have ne := gw_ne wr
            have HQ : Hid (∀ t : Gw wr, TabsU t.wd) := fun t => HA.out.2.1.below t.below
            have HZ : Hid (∀ t : Gw wr, t.wd.cell? ⟨g, j * 4 + 1, none⟩ = some (.int .i64 z.to)) := fun t => cellB (Nat.le_refl _) t.below e1
            have HW : Hid (wgo (l.drop (k + 1)) (kindI l[k].r) l[k].to = wgo (l.drop (j + 1)) (kindI x.r) z.to ∧ x = l[k] ∧ z = l[j]) := ⟨by rw [← hx, hwg], hx, hz⟩
            clear hA hU hL hwg hz e0 e1 e2 e3 c0 c1
            by_cases hj1 : j + 1 < l.length
            · obtain ⟨_, hg3, y0, y1, y2, y3⟩ := HA.out.1 (j + 1) hj1
              cases hg3
              obtain ⟨y, hy⟩ : ∃ y, y = l[j + 1] := ⟨_, rfl⟩
              rw [← hy] at y0 y1 y2 y3
              have hyr : y.r ≤ 1114111 := by rw [hy]; exact HRU.out _ (List.getElem_mem _)
              have HG : Hid (wgo (l.drop (j + 1)) (kindI x.r) z.to = if kindI y.r = kindI x.r then wgo (l.drop (j + 1 + 1)) (kindI x.r) y.to else z.to) := by
                unfold Hid; rw [List.drop_eq_getElem_cons hj1, ← hy]; rfl
              have HY : Hid (y = l[j + 1]) := hy
              obtain ⟨n, hn⟩ : ∃ n, n = j + 1 := ⟨_, rfl⟩
              rw [← hn] at y0 y1 y2 y3
              have hn' : (j : Int) + 1 = (n : Int) := by omega
              have hnl : n < l.length := by omega
              have HN : Hid (n = j + 1) := hn
              have s0 := fun t : Gw wr => cellB (Nat.le_refl _) t.below y0
              have s1 := fun t : Gw wr => cellB (Nat.le_refl _) t.below y1
              have s2 := fun t : Gw wr => cellB (Nat.le_refl _) t.below y2
              have s3 := fun t : Gw wr => cellB (Nat.le_refl _) t.below y3
              have t0 := fun t : Gw wr => cellB (Nat.le_refl _) t.below f0
              have t1 := fun t : Gw wr => cellB (Nat.le_refl _) t.below f1
              have t2 := fun t : Gw wr => cellB (Nat.le_refl _) t.below f2
              have t3 := fun t : Gw wr => cellB (Nat.le_refl _) t.below f3
              clear hy y0 y1 y2 y3 f0 f1 f2 f3 hn hx
              by_cases hkq : kindI y.r = kindI x.r
              · have hq : (kindR y.r == kindR x.r) = true := by rw [kindR_eq]; exact decide_eq_true hkq
                have HK : Hid (kindI y.r = kindI x.r) := hkq
                clear hkq
                go_wp2_with fail
                refine wp_region_gw (by kernel_rfl) (by kernel_rfl) ?_
                repeat (go_big_quiet_step (first
                  | (go_at_call 50; exact gw_call (rkind_any _ _ _ _ _ (by omega) (by omega) (HQ.out _)))))
                refine wpQuiet_nil ?_
                rintro _ ⟨t, rfl⟩
                clear s0 s1 s2 s3 t0 t1 t2 t3
                go_wp2
                go_roundw
                case rel =>
                  refine ⟨n, by have := HN.out; omega, hnl, by first | rfl | go_num, ?_, HA.out.1.below t.below, HA.out.2.1.below t.below, HA.out.2.2.trans (t.below.mono HA.out.2.2.size)⟩
                  obtain ⟨w1', w2', w3'⟩ := HW.out
                  have hn := HN.out
                  subst hn
                  rw [w1', HG.out, if_pos HK.out, ← w2', ← HY.out]
                case measure => simp [intOf]; have := HN.out; omega
              · have hq : (kindR y.r == kindR x.r) = false := by rw [kindR_eq]; exact decide_eq_false hkq
                have HK : Hid (wdR l p = (z.to, true)) := by unfold Hid; rw [HF2.out, HG.out, if_neg hkq]
                clear hkq
                go_wp2_with fail
                refine wp_region_gw (by kernel_rfl) (by kernel_rfl) ?_
                repeat (go_big_quiet_step (first
                  | (go_at_call 50; exact gw_call (rkind_any _ _ _ _ _ (by omega) (by omega) (HQ.out _)))))
                refine wpQuiet_nil ?_
                rintro _ ⟨t, rfl⟩
                clear s0 s1 s2 s3 t0 t1 t2 t3
                have z1 := HZ.out t
                go_wp2
                go_ret2
                exact ⟨by rw [HK.out]; rfl, HA.out.2.2.trans (t.below.mono HA.out.2.2.size)⟩
            · have hje : j + 1 = l.length := by omega
              have HK : Hid (wdR l p = (z.to, true)) := by unfold Hid; rw [HF2.out, hje, List.drop_length]; rfl
              have hn' : decide ((j : Int) + 1 < l.length) = false := by rw [decide_eq_false]; omega
              clear f0 f1 f2 f3 hx
              go_wp2_with fail
              refine wp_region_gw (by kernel_rfl) (by kernel_rfl) ?_
              repeat (go_big_quiet_step (fail))
              refine wpQuiet_nil ?_
              rintro _ ⟨t, rfl⟩
              have z1 := HZ.out t
              go_wp2
              go_ret2
              exact ⟨by rw [HK.out]; rfl, HA.out.2.2.trans (t.below.mono HA.out.2.2.size)⟩
        · go_wp2
          go_roundw
          case rel => exact ⟨k + 1, by omega, by go_num, by rw [HE.out, if_neg (fun h => h2 h.2)], by first | rfl | trivial⟩
          case measure => simp [intOf]; omega
      · go_wp2
        go_roundw
        case rel => exact ⟨k + 1, by omega, by go_num, by rw [HE.out, if_neg (fun h => h1 h.1)], by first | rfl | trivial⟩
        case measure => simp [intOf]; omega
    · obtain rfl : k = l.length := by omega
      have HE : Hid (wdR l p = (0, false)) := by unfold Hid; rw [hall, List.drop_length]; rfl
      go_wp2
      go_ret2
      exact ⟨by rw [HE.out]; rfl, HR.out.2.2⟩

end Go.Proofs.YtbljlebhpbhjjaaDoor
