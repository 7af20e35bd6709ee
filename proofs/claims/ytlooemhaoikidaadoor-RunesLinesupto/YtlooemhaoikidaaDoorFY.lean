/-
  The walk of the statement RunesLines: it answers true; of what was there nothing turns.
-/
import Derived.Test.YtlooemhaoikidaaDoorFX
import Derived.Test.YtlooemhaoikidaaDoorFQ4
import Derived.Test.YtlooemhaoikidaaDoorRAw
import Derived.Test.YtlooemhaoikidaaDoorRV2
import Derived.Test.YtlooemhaoikidaaDoorF4
namespace Go.Proofs.YtlooemhaoikidaaDoor
open Go.RowKit Go.Shelf
theorem ite_max (x y : Int) : (if x < y then y else x) = max x y := by omega
attribute [local go_sem] ite_max
theorem gw_same {P : Program} {f : FuncId} {args : Array Value} {W : World} {v : Value} {t : Gw W}
    (h : Calls P f args t.wd fun e w' => e = .returned v ∧ w' = t.wd) : Calls P f args t.wd fun e w'' => e = .returned v ∧ ∃ t' : Gw W, w'' = t'.wd :=
  h.mono fun _ _ ⟨he, hw⟩ => ⟨he, ⟨t, hw⟩⟩

theorem pre_at {s x : ByteArray} {p : Nat} (h : x = s.extract p (p + x.size)) : Lib.hasPrefix (s.extract p s.size).data.toList x.data.toList = true := by
  obtain ⟨n, hn⟩ : ∃ n, n = x.size := ⟨_, rfl⟩
  rw [← hn] at h
  unfold Lib.hasPrefix
  rw [List.isPrefixOf_iff_prefix, h, ByteArray.data_extract, ByteArray.data_extract, Array.toList_extract, Array.toList_extract, List.extract_eq_take_drop, List.extract_eq_take_drop]
  have e : (s.data.toList.drop p).take (s.size - p) = s.data.toList.drop p := by
    rw [List.take_of_length_le]
    rw [List.length_drop, size_L]
    exact Nat.le_refl _
  rw [e]
  exact List.take_prefix _ _
theorem no_nl {s x : ByteArray} {p : Nat} (h : x = s.extract p (p + x.size)) (hz : p + x.size ≤ s.size) (hno : ∀ (j : Nat) (h : j < s.size), p ≤ j → j < p + x.size → (s[j]).toNat ≠ 10) : Lib.indexByte x.data.toList 10 = -1 := by
  have hge := Lib.indexByte_ge x.data.toList 10
  rcases Int.lt_or_le (Lib.indexByte x.data.toList 10) 0 with hl | hl
  · omega
  · exfalso
    obtain ⟨o, ho⟩ : ∃ o : Nat, Lib.indexByte x.data.toList 10 = o := ⟨_, (Int.toNat_of_nonneg hl).symm⟩
    have h1 := (Lib.indexByte_some ho).1
    have ho' : o < x.size := by have := (List.getElem?_eq_some_iff.1 h1).1; rwa [size_L] at this
    have e : x.data.toList[o]? = s.data.toList[p + o]? := by
      obtain ⟨n, hn⟩ : ∃ n, n = x.size := ⟨_, rfl⟩
      rw [← hn] at h ho'
      rw [h, ByteArray.data_extract, Array.toList_extract, List.extract_eq_take_drop, List.getElem?_take, if_pos (by omega), List.getElem?_drop]
    rw [e, at_list s (show p + o < s.size by omega)] at h1
    injection h1 with h3
    exact hno (p + o) (by omega) (by omega) (by omega) (by rw [h3]; rfl)
theorem sums_nn : ∀ l : List ByteArray, 0 ≤ sums l
  | [] => Int.le_refl _
  | x :: t => by have := sums_nn t; have := sumC_nn x; simp only [sums]; omega
theorem sums_take (l : List ByteArray) (k : Nat) : sums (l.take k) ≤ sums l := by
  have h := sums_app (l.take k) (l.drop k)
  rw [List.take_append_drop] at h
  have := sums_nn (l.drop k)
  omega
theorem sums_mem {x : ByteArray} : ∀ {l : List ByteArray}, x ∈ l → sumC (pcs x) ≤ sums l
  | y :: t, h => by
    have h1 := sums_nn t
    have h2 := sumC_nn y
    simp only [sums]
    rcases List.mem_cons.1 h with rfl | h
    · omega
    · have := sums_mem h
      omega
theorem sums_snoc (l : List ByteArray) (x : ByteArray) : sums (l ++ [x]) = sums l + sumC (pcs x) := by rw [sums_app]; simp [sums]
theorem fold_le (b : Int) : ∀ (l : List ByteArray) (m : Int), m ≤ b → (∀ x ∈ l, sumC (pcs x) ≤ b) → l.foldl (fun m x => max m (sumC (pcs x))) m ≤ b
  | [], _, h, _ => h
  | x :: t, m, h, hx => fold_le b t _ (by have := hx x (by simp); show max m (sumC (pcs x)) ≤ b; omega) (fun y hy => hx y (by simp [hy]))

theorem hasP_any (s p : ByteArray) (w : World) : Calls Tryd.prog 29 #[.string s, .string p] w fun e w' => e = .returned (.bool (Lib.hasPrefix s.data.toList p.data.toList)) ∧ w' = w := Any.strings_HasPrefix Tryd.lays99 s p w
theorem idxB_any (s : ByteArray) (w : World) : Calls Tryd.prog 30 #[.string s, .int .u8 10] w fun e w' => e = .returned (.int .i64 (Lib.indexByte s.data.toList 10)) ∧ w' = w := Any.strings_IndexByte Tryd.lays137 s 10 w

def KInv (s : ByteArray) (R : List ByteArray) (w : World) (g : Nat) (k a : Nat) (wr : World) : Prop :=
  k ≤ R.length ∧ a ≤ s.size ∧ Wk s (decide (k = 0)) a (R.drop k) ∧ (All wr ∧ Below w.heap.size w wr) ∧ Rd wr g R
theorem wk_cases {s : ByteArray} {R : List ByteArray} {k a : Nat} (hlt : k < R.length) (h : Wk s (decide (k = 0)) a (R.drop k)) :
    ∃ q, ((k = 0 ∧ q = a) ∨ (0 < k ∧ (∃ h : a < s.size, (s[a]).toNat = 10) ∧ q = a + 1) ∨ (0 < k ∧ (∃ h : a < s.size, (s[a]).toNat ≠ 10) ∧ q = a)) ∧ q + (R[k]).size ≤ s.size ∧
      Lib.hasPrefix (s.extract q s.size).data.toList (R[k]).data.toList = true ∧ Lib.indexByte (R[k]).data.toList 10 = -1 ∧ Wk s (decide (k + 1 = 0)) (q + (R[k]).size) (R.drop (k + 1)) := by
  rw [List.drop_eq_getElem_cons hlt] at h
  obtain ⟨q, q1, q2, q3, q4, q5, q6⟩ := h
  refine ⟨q, ?_, q3, pre_at q4, no_nl q4 q3 q5, q6⟩
  by_cases h0 : k = 0
  · exact .inl ⟨h0, q1 (by simp [h0])⟩
  · obtain ⟨ha, ⟨h1, h2⟩ | ⟨h1, h2⟩⟩ := q2 (by simp [h0])
    · exact .inr (.inl ⟨by omega, ⟨ha, h1⟩, h2⟩)
    · exact .inr (.inr ⟨by omega, ⟨ha, h1⟩, h2⟩)

set_option maxRecDepth 10000 in
set_option maxHeartbeats 8000000 in
theorem liness_walk (s : ByteArray) (cells : Int) (mark : ByteArray) (w : World) (A : All w) (hs : s.size ≤ 1048576) (hm : mark.size ≤ 1048576) (hc : cells ≤ 9223372036854775807) :
    Calls Tryd.prog 6 #[.string s, .int .i64 cells, .string mark] w fun e w' => e = .returned (.bool true) ∧ Below w.heap.size w w' := by
  obtain ⟨f1, f2, f3, f4⟩ := lines_facts s (roomOf cells)
  obtain ⟨g1, g2⟩ := cut_facts s cells mark
  have hwm : widL (paras s) (roomOf cells) 0 = wids (outL (paras s) (roomOf cells)) := wid_max _ _ _
  have N1 : Hid (∀ w, All w → Calls Tryd.prog 18 #[.string s, .int .i64 cells, .string mark] w fun e w' => e = .returned (.tuple #[.string (cutS s cells mark), .bool (cutB s cells)]) ∧ Below w.heap.size w w') := fun w A => cut_any s cells mark w A.1 (by unfold Short; omega) (by unfold Short; omega) hc
  have N3 : Hid (∀ w, All w → Calls Tryd.prog 20 #[.string s, .int .i64 cells] w fun e w' => ∃ v, e = .returned (.tuple #[v, .int .i64 (wids (outL (paras s) (roomOf cells)))]) ∧ w'.ownsRow w.heap.size 9 1 v (outL (paras s) (roomOf cells)).length ((outL (paras s) (roomOf cells)).map Value.string) ∧ Below w.heap.size w w') := fun w A => by
    have h := lines_any s cells w A.1 A.2.2.1 hs
    rw [hwm] at h
    exact h
  have NC : Hid (∀ (t : ByteArray) w, t.size ≤ 2097152 → All w → ∃ n : Nat, Calls Tryd.prog 10 #[.string t] w fun e w' => e = .returned (.tuple #[.int .i64 (sumC (pcs t)), .int .i64 n]) ∧ Below w.heap.size w w') := fun t w ht h => ⟨_, cells_any t w h.1 (by unfold Short; omega)⟩
  have hpos : 0 < (outL (paras s) (roomOf cells)).length := List.length_pos_iff.2 f1
  have hlen := outB s cells hs
  have hcs : (cutS s cells mark).size ≤ 2097152 := by
    unfold cutS
    split
    · omega
    · split
      · rw [ByteArray.size_extract]; omega
      · rw [ByteArray.size_append, ByteArray.size_extract]; omega
  have hsum : sumC (pcs s) ≤ 2097152 := by
    rw [sum_wsum]
    have h1 := wsum_le (pcs s)
    have h2 := pcs_len s
    omega
  have HW : Hid (2 ≤ cells → wids (outL (paras s) (roomOf cells)) ≤ cells) := by
    intro h2
    have e : roomOf cells = cells := by unfold roomOf; rw [if_neg (by omega)]
    rw [e] at f4 ⊢
    exact fold_le cells _ 0 (by omega) (f4 h2)
  have HX : Hid (∀ x ∈ outL (paras s) (roomOf cells), x.size ≤ 2097152 ∧ sumC (pcs x) ≤ 2097152) := by
    intro x hx
    have h1 := outL_size hx
    have h2 := sums_mem hx
    rw [f3] at h2
    omega
  have HC : Hid (cutB s cells = decide (max cells 0 < sumC (pcs s)) ∧ (cutB s cells = false → cutS s cells mark = s)) := ⟨rfl, g2⟩
  have HF : Hid (Wk s true 0 (outL (paras s) (roomOf cells)) ∧ sums (outL (paras s) (roomOf cells)) = sumC (pcs s)) := ⟨f2, f3⟩
  clear f1 f2 f3 f4 g2 hwm
  generalize cutS s cells mark = c1 at *
  generalize cutB s cells = c2 at *
  generalize outL (paras s) (roomOf cells) = R at *
  have HG : Hid (sumC (pcs c1) ≤ max cells 0) := g1
  have H0 : Hid (All w ∧ Below w.heap.size w w) := ⟨A, Below.refl _ _⟩
  clear A g1
  go_enter Tryd.func6, Tryd.ntmps6
  go_wp2_with fail
  refine (awake_any _ H0.out.1).mono ?_
  rintro e w1 ⟨rfl, hb⟩
  have H1 : Hid (All w1 ∧ Below w.heap.size w w1) := chain_all H0.out hb
  clear hb
  go_wp2_with fail
  refine (N3.out _ H1.out.1).mono ?_
  rintro e w2 ⟨v, rfl, hv, hb⟩
  obtain ⟨g, cap, rfl, hcap, _, hrd⟩ := row_rd hv hpos
  have HK0 : Hid (KInv s R w g 0 0 w2) := ⟨Nat.zero_le _, Nat.zero_le _, HF.out.1, chain_all H1.out hb, hrd⟩
  clear hb hv hrd
  go_wp2_with fail
  go_loopw [10, 11, 12, 13] (fun a sm wi i wr => ∃ k p : Nat, a = .int .i64 p ∧ i = .int .i64 k ∧ sm = .int .i64 (sums (R.take k)) ∧ wi = .int .i64 (wids (R.take k)) ∧ KInv s R w g k p wr) (fun _ _ _ i _ => R.length - (intOf i).toNat)
  case atStart => exact ⟨0, 0, rfl, rfl, rfl, rfl, HK0.out⟩
  case round =>
    obtain ⟨k, p, rfl, rfl, rfl, rfl, hK⟩ := hrel
    have HK : Hid (KInv s R w g k p wr) := hK
    obtain ⟨hk, hp, hwk, hAB, hRd⟩ := hK
    by_cases hlt : k < R.length
    · obtain ⟨q, hcase, q3, q4, q5, q6⟩ := wk_cases hlt hwk
      have htk : R.take (k + 1) = R.take k ++ [R[k]] := List.take_succ_eq_append_getElem hlt
      have hst := sums_take R k
      have hst' := sums_take R (k + 1)
      have hsn := sums_nn (R.take k)
      rw [HF.out.2] at hst hst'
      have hRx := HX.out R[k] (List.getElem_mem hlt)
      have hcx := hRd.2 k hlt
      have hxn := sumC_nn R[k]
      obtain ⟨x, hx⟩ : ∃ x, x = R[k] := ⟨_, rfl⟩
      rw [← hx] at q3 q4 q5 q6 htk hRx hcx hxn
      obtain ⟨y, hy⟩ : ∃ y, y = sumC (pcs x) := ⟨_, rfl⟩
      have HN : Hid (Wk s (decide (k + 1 = 0)) (q + x.size) (R.drop (k + 1)) ∧ sums (R.take (k + 1)) = sums (R.take k) + y ∧ wids (R.take (k + 1)) = max (wids (R.take k)) y) := ⟨q6, by rw [htk, sums_snoc, hy], by rw [htk, wids_snoc, hy]⟩
      have hCx : Hid (∀ w, All w → ∃ n : Nat, Calls Tryd.prog 10 #[.string x] w fun e w' => e = .returned (.tuple #[.int .i64 y, .int .i64 n]) ∧ Below w.heap.size w w') := by
        intro w h
        obtain ⟨n, hn⟩ := NC.out x w hRx.1 h
        rw [← hy] at hn
        exact ⟨n, hn⟩
      rw [← hy] at hRx hxn
      obtain ⟨sm, hsm⟩ : ∃ sm, sm = sums (R.take k) := ⟨_, rfl⟩
      obtain ⟨wi, hwi⟩ : ∃ wi, wi = wids (R.take k) := ⟨_, rfl⟩
      rw [← hsm] at hst hsn
      have HN2 : Hid (sm = sums (R.take k) ∧ wi = wids (R.take k)) := ⟨hsm, hwi⟩
      rw [← hsm, ← hwi]
      have hP : Hid (∀ w, Calls Tryd.prog 29 #[.string (s.extract q s.size), .string x] w fun e w' => e = .returned (.bool true) ∧ w' = w) := fun w => by
        have h := hasP_any (s.extract q s.size) x w
        rw [q4] at h
        exact h
      have hI : Hid (∀ w, Calls Tryd.prog 30 #[.string x, .int .u8 10] w fun e w' => e = .returned (.int .i64 (-1)) ∧ w' = w) := fun w => by
        have h := idxB_any x w
        rw [q5] at h
        exact h
      have c0 : ∀ t : Gw wr, t.wd.cell? ⟨g, k, none⟩ = some (.string x) := fun t => by rw [t.below.cell (p := ⟨g, k, none⟩) hRd.1]; exact hcx
      have ne : Nonempty (Gw wr) := ⟨⟨wr, Below.refl _ _⟩⟩
      clear hx hy hsm hwi htk q4 q5 q6 hwk hAB hRd hst' hcx
      have HRel : Hid (∀ w5, (All w5 ∧ Below w.heap.size w w5) ∧ Rd w5 g R → ∀ ai ki : Int, ai = (q : Int) + x.size → ki = (k : Int) + 1 → ∃ k' p' : Nat, Value.int .i64 ai = .int .i64 p' ∧ Value.int .i64 ki = .int .i64 k' ∧ Value.int .i64 (sm + y) = .int .i64 (sums (R.take k')) ∧ Value.int .i64 (max wi y) = .int .i64 (wids (R.take k')) ∧ KInv s R w g k' p' w5) := by
        intro w5 h5 ai ki h1 h2
        refine ⟨k + 1, q + x.size, by rw [h1]; go_num, by rw [h2]; go_num, by rw [HN.out.2.1, HN2.out.1], by rw [HN.out.2.2, HN2.out.2], by omega, q3, HN.out.1, h5.1, h5.2⟩
      rcases hcase with ⟨h0, rfl⟩ | ⟨h0, ⟨ha, h10⟩, rfl⟩ | ⟨h0, ⟨ha, h10⟩, rfl⟩
      all_goals
        first | subst h0 | skip
        go_wp2_with fail
        refine wp_region_gw (by kernel_rfl) (by kernel_rfl) ?_
        repeat (go_big_quiet_step (first
          | (go_at_call 29; exact gw_same (hP.out _))
          | (go_at_call 30; exact gw_same (hI.out _))))
        refine wpQuiet_nil ?_
        rintro _ ⟨t, rfl⟩
        have c1 := c0 t
        obtain ⟨_, _, _, hAB, hRd⟩ := HK.out
        have HT : Hid ((All t.wd ∧ Below w.heap.size w t.wd) ∧ Rd t.wd g R) := ⟨chain_all hAB t.below, hRd.below t.below⟩
        clear hAB hRd c0 ne
        go_wp2_with fail
        obtain ⟨n, hn⟩ := hCx.out _ HT.out.1.1
        refine hn.mono ?_
        rintro e w5 ⟨rfl, hb⟩
        have H5 : Hid ((All w5 ∧ Below w.heap.size w w5) ∧ Rd w5 g R) := ⟨chain_all HT.out.1 hb, HT.out.2.below hb⟩
        clear hb hn HT c1
        go_wp2
        exact ⟨HRel.out w5 H5.out _ _ (by omega) (by omega), by simp [intOf]; omega⟩
    · obtain rfl : k = R.length := by omega
      rw [List.drop_length] at hwk
      obtain rfl : p = s.size := hwk
      rw [List.take_length, HF.out.2]
      have HT : Hid (All wr ∧ Below w.heap.size w wr) := hAB
      have HN : Hid (∀ w, All w → ∃ n : Nat, Calls Tryd.prog 10 #[.string s] w fun e w' => e = .returned (.tuple #[.int .i64 (sumC (pcs s)), .int .i64 n]) ∧ Below w.heap.size w w') := fun w h => NC.out s w (by omega) h
      have HM : Hid (∀ w, All w → ∃ n : Nat, Calls Tryd.prog 10 #[.string c1] w fun e w' => e = .returned (.tuple #[.int .i64 (sumC (pcs c1)), .int .i64 n]) ∧ Below w.heap.size w w') := fun w h => NC.out c1 w (by omega) h
      clear hAB hRd HK0 HX HF NC HK N3
      obtain ⟨y, hy⟩ : ∃ y, y = sumC (pcs c1) := ⟨_, rfl⟩
      rw [← hy] at HM HG
      clear hy
      generalize sumC (pcs s) = n0 at *
      generalize wids R = m at *
      have hgy := HG.out
      have hcw : (2 ≤ cells ∧ m ≤ cells) ∨ ¬ 2 ≤ cells := by
        by_cases h2 : 2 ≤ cells
        · exact .inl ⟨h2, HW.out h2⟩
        · exact .inr h2
      rcases hcw with ⟨h2, h3⟩ | h2
      all_goals
        go_wp2_with fail
        obtain ⟨n, hn⟩ := HN.out _ HT.out.1
        refine hn.mono ?_
        rintro e w3 ⟨rfl, hb⟩
        have H3 : Hid (All w3 ∧ Below w.heap.size w w3) := chain_all HT.out hb
        clear hb hn
        go_wp2_with fail
        refine (N1.out _ H3.out.1).mono ?_
        rintro e w4 ⟨rfl, hb⟩
        have H4 : Hid (All w4 ∧ Below w.heap.size w w4) := chain_all H3.out hb
        clear hb
        go_wp2_with fail
        obtain ⟨n', hn⟩ := HM.out _ H4.out.1
        refine hn.mono ?_
        rintro e w5 ⟨rfl, hb⟩
        have H5 : Hid (All w5 ∧ Below w.heap.size w w5) := chain_all H4.out hb
        clear hb hn
        obtain ⟨hc2, hc1⟩ := HC.out
        by_cases hcut : max cells 0 < n0
        · obtain rfl : c2 = true := by rw [hc2]; exact decide_eq_true hcut
          clear hc1 hc2
          go_wp2
          go_ret
          exact ⟨rfl, H5.out.2⟩
        · obtain rfl : c2 = false := by rw [hc2]; exact decide_eq_false hcut
          obtain rfl : c1 = s := hc1 rfl
          clear hc1 hc2
          go_wp2
          go_ret
          refine ⟨?_, H5.out.2⟩
          show Ending.returned (.bool (!decide (max cells 0 < n0))) = _
          rw [decide_eq_false (show ¬ max cells 0 < n0 by omega)]
          rfl

end Go.Proofs.YtlooemhaoikidaaDoor
