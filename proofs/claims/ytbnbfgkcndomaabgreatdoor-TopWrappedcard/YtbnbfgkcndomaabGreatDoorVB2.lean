/-
  The document's wrappers: Check, Checks, says, Says.
-/
import Derived.Test.YtbnbfgkcndomaabGreatDoorVA
namespace Go.Proofs.YtbnbfgkcndomaabGreatDoor
open Go.RowKit Go.Shelf

set_option maxHeartbeats 1000000 in
theorem rtextW_any (s : ByteArray) (w : World) (hT : Tab w) :
    Calls Tryz.prog 108 #[.string s] w fun e w' => e = .returned (.bool (txB s 64)) ∧ Below w.heap.size w w' := by
  by_cases hs : (s.size : Int) ≤ 64
  · have h2 : Hid (Calls Tryz.prog 134 #[.string s] w fun e w' => e = .returned (.bool (Lib.validD s.data.toList)) ∧ Below w.heap.size w w') := Any.utf8_ValidString Tryz.lays196 s w (by omega) hT
    have e1 : txB s 64 = Lib.validD s.data.toList := by simp [txB, show s.size ≤ 64 by omega]
    rw [e1]
    generalize Lib.validD s.data.toList = b at *
    clear e1
    go_enter Tryz.func108, Tryz.ntmps108
    go_wp2_with fail
    refine h2.out.mono ?_
    rintro e w1 ⟨rfl, hb⟩
    go_wp2
    go_ret
    exact ⟨rfl, hb⟩
  · have e1 : txB s 64 = false := by simp [txB, show ¬ s.size ≤ 64 by omega]
    rw [e1]
    clear e1
    go_enter Tryz.func108, Tryz.ntmps108
    go_wp2
    go_ret
    exact ⟨rfl, Below.refl _ _⟩

theorem nat_b (m j : Nat) : ((m : Int) == (j : Int)) = decide (m = j) := by
  by_cases h : m = j
  · rw [decide_eq_true h, h]; exact beq_self_eq_true _
  · rw [decide_eq_false h]; exact beq_eq_false_iff_ne.2 (by omega)
theorem mask_doc (m : Nat) : decide (m < 64) = (((m : Int) == 0) || decide ((m : Int) ≤ 63)) := by
  by_cases h : m < 64
  · rw [decide_eq_true h, decide_eq_true (show (m : Int) ≤ 63 by omega), Bool.or_true]
  · rw [decide_eq_false h, decide_eq_false (show ¬ (m : Int) ≤ 63 by omega), Bool.or_false]
    exact (beq_eq_false_iff_ne.2 (by omega)).symm
theorem ok_out {x : Wr} (h : x.kind = 0 ∨ 7 < x.kind) : okW x = false := by
  unfold okW
  rcases h with h | h
  · rw [decide_eq_false (show ¬ 1 ≤ x.kind by omega)]; rfl
  · rw [decide_eq_false (show ¬ x.kind ≤ 7 by omega)]; simp

set_option maxHeartbeats 4000000 in
theorem rWCheck_any (x : Wr) (w : World) (hT : Tab w) :
    Calls Tryz.prog 57 #[(Value.agg #[.int .u8 (x.kind : Nat), .int .u16 (x.mask : Nat), .int .i64 x.num, .string x.text])] w fun e w' => e = .returned (.int .i64 (if okW x then 0 else 70)) ∧ Below w.heap.size w w' := by
  have L : Hid (Below w.heap.size w (w.alloc (.cells (#[.int .u8 (x.kind : Nat), .int .u16 (x.mask : Nat), .int .i64 x.num, .string x.text]) 58))) := (Below.refl _ w).alloc (Nat.le_refl _) _
  have K : Hid (Blk (w.alloc (.cells (#[.int .u8 (x.kind : Nat), .int .u16 (x.mask : Nat), .int .i64 x.num, .string x.text]) 58)) w.heap.size (#[.int .u8 (x.kind : Nat), .int .u16 (x.mask : Nat), .int .i64 x.num, .string x.text]) 58) := Blk.new _ _ _
  have HV : Hid (Calls Tryz.prog 108 #[.string x.text] (w.alloc (.cells (#[.int .u8 (x.kind : Nat), .int .u16 (x.mask : Nat), .int .i64 x.num, .string x.text]) 58)) fun e w' => e = .returned (.bool (txB x.text 64)) ∧ Below (w.alloc (.cells (#[.int .u8 (x.kind : Nat), .int .u16 (x.mask : Nat), .int .i64 x.num, .string x.text]) 58)).heap.size (w.alloc (.cells (#[.int .u8 (x.kind : Nat), .int .u16 (x.mask : Nat), .int .i64 x.num, .string x.text]) 58)) w') := rtextW_any x.text _ (hT.below L.out)
  clear hT
  obtain ⟨k, m, n, t⟩ := x
  simp only at L K HV
  have hk : k = 1 ∨ k = 2 ∨ k = 3 ∨ k = 4 ∨ k = 5 ∨ k = 6 ∨ k = 7 ∨ (k = 0 ∨ 7 < k) := by omega
  have H0 : t.size = 0 ∨ t.size ≠ 0 := by omega
  rcases hk with h | h | h | h | h | h | h | h
  case inr.inr.inr.inr.inr.inr.inr =>
    rw [ok_out (x := ⟨k, m, n, t⟩) h]
    rcases h with rfl | h
    · go_enter Tryz.func57, Tryz.ntmps57
      go_wp2
      all_goals
        go_ret
        exact ⟨rfl, L.out⟩
    · have k1 : ((k : Int) == 1) = false := beq_eq_false_iff_ne.2 (by omega)
      have k2 : ((k : Int) == 2) = false := beq_eq_false_iff_ne.2 (by omega)
      have k3 : ((k : Int) == 3) = false := beq_eq_false_iff_ne.2 (by omega)
      have k4 : ((k : Int) == 4) = false := beq_eq_false_iff_ne.2 (by omega)
      have k5 : ((k : Int) == 5) = false := beq_eq_false_iff_ne.2 (by omega)
      have k6 : ((k : Int) == 6) = false := beq_eq_false_iff_ne.2 (by omega)
      have g1 : (1 : Int) ≤ (k : Int) := by omega
      have g2 : ¬ (k : Int) ≤ 7 := by omega
      clear h H0
      go_enter Tryz.func57, Tryz.ntmps57
      go_wp2
      all_goals
        go_ret
        exact ⟨rfl, L.out⟩
  all_goals subst h
  case inr.inr.inr.inl =>
    have ex : okW ⟨4, m, n, t⟩ = (((m : Int) == 0) && ((n == 0) && txB t 64)) := by
      simp only [okW, mskB, numB, txtB]
      rw [show ((m : Int) == 0) = decide (m = 0) from nat_b m 0]
      rfl
    rw [ex]
    clear ex H0
    generalize txB t 64 = v at *
    obtain ⟨b1, h1⟩ : ∃ b, ((m : Int) == 0) = b := ⟨_, rfl⟩
    obtain ⟨b2, h2⟩ : ∃ b, (n == 0) = b := ⟨_, rfl⟩
    rw [h1, h2]
    cases b1
    · go_enter Tryz.func57, Tryz.ntmps57
      go_wp2
      all_goals
        go_ret
        exact ⟨rfl, L.out⟩
    cases b2
    · go_enter Tryz.func57, Tryz.ntmps57
      go_wp2
      all_goals
        go_ret
        exact ⟨rfl, L.out⟩
    cases v
    all_goals
      go_enter Tryz.func57, Tryz.ntmps57
      go_wp2_with fail
      refine HV.out.mono ?_
      rintro e w1 ⟨rfl, hb⟩
      have K1 := K.out.below hb
      obtain ⟨c0, c1, c2, c3⟩ : _ ∧ _ ∧ _ ∧ _ := ⟨K1.cell 0, K1.cell 1, K1.cell 2, K1.cell 3⟩
      have L1 : Hid (Below w.heap.size w w1) := L.out.trans (hb.mono L.out.size)
      clear K1 hb
      go_wp2
      go_ret
      exact ⟨rfl, L1.out⟩
  case inr.inr.inr.inr.inr.inl =>
    have ex : okW ⟨6, m, n, t⟩ = (((m : Int) == 0) && ((n == 0) && (txB t 64 && decide (t.size ≠ 0)))) := by
      simp only [okW, mskB, numB, txtB]
      rw [show ((m : Int) == 0) = decide (m = 0) from nat_b m 0]
      rfl
    rw [ex]
    clear ex
    generalize txB t 64 = v at *
    obtain ⟨b1, h1⟩ : ∃ b, ((m : Int) == 0) = b := ⟨_, rfl⟩
    obtain ⟨b2, h2⟩ : ∃ b, (n == 0) = b := ⟨_, rfl⟩
    rw [h1, h2]
    cases b1
    · go_enter Tryz.func57, Tryz.ntmps57
      go_wp2
      all_goals
        go_ret
        exact ⟨rfl, L.out⟩
    cases b2
    · go_enter Tryz.func57, Tryz.ntmps57
      go_wp2
      all_goals
        go_ret
        exact ⟨rfl, L.out⟩
    rcases H0 with h0 | h0
    · obtain rfl := txt_nil h0
      clear h0
      cases v
      all_goals
        go_enter Tryz.func57, Tryz.ntmps57
        go_wp2_with fail
        refine HV.out.mono ?_
        rintro e w1 ⟨rfl, hb⟩
        have K1 := K.out.below hb
        obtain ⟨c0, c1, c2, c3⟩ : _ ∧ _ ∧ _ ∧ _ := ⟨K1.cell 0, K1.cell 1, K1.cell 2, K1.cell 3⟩
        have L1 : Hid (Below w.heap.size w w1) := L.out.trans (hb.mono L.out.size)
        clear K1 hb
        go_wp2
        go_ret
        exact ⟨rfl, L1.out⟩
    · obtain ⟨hne, hie⟩ := txt_ne h0
      rw [decide_eq_true h0]
      clear h0
      cases v
      all_goals
        go_enter Tryz.func57, Tryz.ntmps57
        go_wp2_with fail
        refine HV.out.mono ?_
        rintro e w1 ⟨rfl, hb⟩
        have K1 := K.out.below hb
        obtain ⟨c0, c1, c2, c3⟩ : _ ∧ _ ∧ _ ∧ _ := ⟨K1.cell 0, K1.cell 1, K1.cell 2, K1.cell 3⟩
        have L1 : Hid (Below w.heap.size w w1) := L.out.trans (hb.mono L.out.size)
        clear K1 hb
        go_wp2
        go_ret
        exact ⟨rfl, L1.out⟩
  all_goals clear HV K
  case inl =>
    have ex : okW ⟨1, m, n, t⟩ = ((((m : Int) == 0) || decide ((m : Int) ≤ 63)) && ((n == 0) && decide (t.size = 0))) := by
      rw [← mask_doc]; rfl
    rw [ex]
    clear ex
    obtain ⟨b1, h1⟩ : ∃ b, ((m : Int) == 0) = b := ⟨_, rfl⟩
    obtain ⟨b3, h3⟩ : ∃ b, decide ((m : Int) ≤ 63) = b := ⟨_, rfl⟩
    obtain ⟨b2, h2⟩ : ∃ b, (n == 0) = b := ⟨_, rfl⟩
    rw [h1, h2, h3]
    rcases H0 with h0 | h0
    · obtain rfl := txt_nil h0
      clear h0
      cases b1 <;> cases b2 <;> cases b3
      all_goals
        go_enter Tryz.func57, Tryz.ntmps57
        go_wp2
        go_ret
        exact ⟨rfl, L.out⟩
    · obtain ⟨hne, hie⟩ := txt_ne h0
      rw [decide_eq_false h0]
      clear h0
      cases b1 <;> cases b2 <;> cases b3
      all_goals
        go_enter Tryz.func57, Tryz.ntmps57
        go_wp2
        go_ret
        exact ⟨rfl, L.out⟩
  case inr.inl =>
    have ex : okW ⟨2, m, n, t⟩ = ((((m : Int) == 0) || decide ((m : Int) ≤ 63)) && ((n == 0) && decide (t.size = 0))) := by
      rw [← mask_doc]; rfl
    rw [ex]
    clear ex
    obtain ⟨b1, h1⟩ : ∃ b, ((m : Int) == 0) = b := ⟨_, rfl⟩
    obtain ⟨b3, h3⟩ : ∃ b, decide ((m : Int) ≤ 63) = b := ⟨_, rfl⟩
    obtain ⟨b2, h2⟩ : ∃ b, (n == 0) = b := ⟨_, rfl⟩
    rw [h1, h2, h3]
    rcases H0 with h0 | h0
    · obtain rfl := txt_nil h0
      clear h0
      cases b1 <;> cases b2 <;> cases b3
      all_goals
        go_enter Tryz.func57, Tryz.ntmps57
        go_wp2
        go_ret
        exact ⟨rfl, L.out⟩
    · obtain ⟨hne, hie⟩ := txt_ne h0
      rw [decide_eq_false h0]
      clear h0
      cases b1 <;> cases b2 <;> cases b3
      all_goals
        go_enter Tryz.func57, Tryz.ntmps57
        go_wp2
        go_ret
        exact ⟨rfl, L.out⟩
  case inr.inr.inl =>
    have ex : okW ⟨3, m, n, t⟩ = (((m : Int) == 0) && ((decide (0 ≤ n) && decide (n ≤ 16384)) && decide (t.size = 0))) := by
      rw [show ((m : Int) == 0) = decide (m = 0) from nat_b m 0]; rfl
    rw [ex]
    clear ex
    obtain ⟨b1, h1⟩ : ∃ b, ((m : Int) == 0) = b := ⟨_, rfl⟩
    obtain ⟨b3, h3⟩ : ∃ b, decide (0 ≤ n) = b := ⟨_, rfl⟩
    obtain ⟨b2, h2⟩ : ∃ b, decide (n ≤ 16384) = b := ⟨_, rfl⟩
    rw [h1, h2, h3]
    rcases H0 with h0 | h0
    · obtain rfl := txt_nil h0
      clear h0
      cases b1 <;> cases b2 <;> cases b3
      all_goals
        go_enter Tryz.func57, Tryz.ntmps57
        go_wp2
        go_ret
        exact ⟨rfl, L.out⟩
    · obtain ⟨hne, hie⟩ := txt_ne h0
      rw [decide_eq_false h0]
      clear h0
      cases b1 <;> cases b2 <;> cases b3
      all_goals
        go_enter Tryz.func57, Tryz.ntmps57
        go_wp2
        go_ret
        exact ⟨rfl, L.out⟩
  case inr.inr.inr.inr.inl =>
    have ex : okW ⟨5, m, n, t⟩ = (((m : Int) == 0) && ((decide (-1 ≤ n) && decide (n ≤ 1048576)) && decide (t.size = 0))) := by
      rw [show ((m : Int) == 0) = decide (m = 0) from nat_b m 0]; rfl
    rw [ex]
    clear ex
    obtain ⟨b1, h1⟩ : ∃ b, ((m : Int) == 0) = b := ⟨_, rfl⟩
    obtain ⟨b3, h3⟩ : ∃ b, decide (-1 ≤ n) = b := ⟨_, rfl⟩
    obtain ⟨b2, h2⟩ : ∃ b, decide (n ≤ 1048576) = b := ⟨_, rfl⟩
    rw [h1, h2, h3]
    rcases H0 with h0 | h0
    · obtain rfl := txt_nil h0
      clear h0
      cases b1 <;> cases b2 <;> cases b3
      all_goals
        go_enter Tryz.func57, Tryz.ntmps57
        go_wp2
        go_ret
        exact ⟨rfl, L.out⟩
    · obtain ⟨hne, hie⟩ := txt_ne h0
      rw [decide_eq_false h0]
      clear h0
      cases b1 <;> cases b2 <;> cases b3
      all_goals
        go_enter Tryz.func57, Tryz.ntmps57
        go_wp2
        go_ret
        exact ⟨rfl, L.out⟩
  case inr.inr.inr.inr.inr.inr.inl =>
    have ex : okW ⟨7, m, n, t⟩ = (((m : Int) == 0) && ((n == 0) && decide (t.size = 0))) := by
      rw [show ((m : Int) == 0) = decide (m = 0) from nat_b m 0]; rfl
    rw [ex]
    clear ex
    obtain ⟨b1, h1⟩ : ∃ b, ((m : Int) == 0) = b := ⟨_, rfl⟩
    obtain ⟨b2, h2⟩ : ∃ b, (n == 0) = b := ⟨_, rfl⟩
    rw [h1, h2]
    rcases H0 with h0 | h0
    · obtain rfl := txt_nil h0
      clear h0
      cases b1 <;> cases b2
      all_goals
        go_enter Tryz.func57, Tryz.ntmps57
        go_wp2
        go_ret
        exact ⟨rfl, L.out⟩
    · obtain ⟨hne, hie⟩ := txt_ne h0
      rw [decide_eq_false h0]
      clear h0
      cases b1 <;> cases b2
      all_goals
        go_enter Tryz.func57, Tryz.ntmps57
        go_wp2
        go_ret
        exact ⟨rfl, L.out⟩

end Go.Proofs.YtbnbfgkcndomaabGreatDoor

namespace Go.Proofs.YtbnbfgkcndomaabGreatDoor
open Go.RowKit Go.Shelf

theorem ret_u16 {a b : Int} (h : a = b) : Ending.returned (.int .u16 a) = .returned (.int .u16 b) := by rw [h]

set_option maxHeartbeats 1000000 in
theorem rChecks_any (l : List Wr) (v : Value) (w : World) (hT : Tab w) (hv : Wraps w v l) :
    Calls Tryz.prog 29 #[v] w fun e w' => e = .returned (.int .i64 (ckE l)) ∧ Below w.heap.size w w' := by
  obtain ⟨oa, cap, rfl, hc, hg⟩ := hv
  have HG : Hid (0 < l.length → ∃ g o, oa = some ⟨g, o, none⟩ ∧ g < w.heap.size ∧ ∀ i (h : i < l.length), WrAt w g (o + i * 4) l[i]) := hg
  have HH : Hid (Tab w) := hT
  clear hg hT
  unfold ckE
  by_cases hm : 16 < l.length
  · rw [if_pos hm]
    have hm' : (16 : Int) < (l.length : Int) := by omega
    go_enter Tryz.func29, Tryz.ntmps29
    go_wp2
    go_ret
    exact ⟨rfl, Below.refl _ _⟩
  rw [if_neg hm]
  have hm' : ¬ (16 : Int) < (l.length : Int) := by omega
  obtain ⟨R, hR⟩ : ∃ R : Int, (if l.all okW = true then 0 else 70) = R := ⟨_, rfl⟩
  rw [hR]
  have HF : Hid ((l.all okW = false → R = 70) ∧ (l.all okW = true → R = 0)) := ⟨fun h => by rw [← hR, h]; rfl, fun h => by rw [← hR, h]; rfl⟩
  clear hR
  go_enter Tryz.func29, Tryz.ntmps29
  go_wp2_with fail
  go_loopw [3] (fun i wr => ∃ k : Nat, k ≤ l.length ∧ i = .int .i64 k ∧ Hid ((l.take k).all okW = true ∧ Below w.heap.size w wr)) (fun i _ => l.length - (intOf i).toNat)
  case atStart => exact ⟨0, Nat.zero_le _, rfl, rfl, Below.refl _ _⟩
  case round =>
    obtain ⟨k, hk, rfl, HR⟩ := hrel
    by_cases hlt : k < l.length
    · obtain ⟨g, o, rfl, hg, hat⟩ := HG.out (by omega)
      have hx := (hat k hlt).kept (w' := wr) fun j => HR.out.2.cell (p := ⟨g, j, none⟩) hg
      have e1 : l.take (k + 1) = l.take k ++ [l[k]] := (List.take_append_getElem hlt).symm
      have e2 : (l.take (k + 1)).all okW = okW l[k] := by rw [e1, List.all_append, HR.out.1]; simp
      have e3 : okW l[k] = false → R = 70 := fun h => HF.out.1 <| by
        rw [List.all_eq_false]; exact ⟨l[k], List.getElem_mem hlt, by rw [h]; simp⟩
      have HC : Hid (Calls Tryz.prog 57 #[(Value.agg #[.int .u8 (l[k].kind : Nat), .int .u16 (l[k].mask : Nat), .int .i64 l[k].num, .string l[k].text])] wr fun e w' => e = .returned (.int .i64 (if okW l[k] then 0 else 70)) ∧ Below wr.heap.size wr w') := rWCheck_any _ _ (HH.out.below HR.out.2)
      have ik : (k : Int) < (l.length : Int) := by omega
      have HN : Hid ((l.take (k + 1)).all okW = okW l[k] ∧ (okW l[k] = false → R = 70)) := ⟨e2, e3⟩
      clear e1 e2 e3 hat
      generalize okW l[k] = b at *
      generalize l[k] = x at *
      obtain ⟨x0, x1, x2, x3⟩ := hx
      cases b
      · go_wp2_with fail
        refine HC.out.mono ?_
        rintro e w1 ⟨rfl, hb⟩
        have H1 : Hid (Below w.heap.size w w1) := HR.out.2.trans (hb.mono HR.out.2.size)
        have e5 : R = 70 := by first | exact HN.out.2 rfl | exact HN.out.2 trivial
        clear hb
        go_wp2
        go_ret
        exact ⟨by rw [e5]; rfl, H1.out⟩
      · go_wp2_with fail
        refine HC.out.mono ?_
        rintro e w1 ⟨rfl, hb⟩
        have H1 : Hid (Below w.heap.size w w1) := HR.out.2.trans (hb.mono HR.out.2.size)
        clear hb
        go_wp2
        go_roundw
        case rel => exact ⟨k + 1, by omega, by go_num, HN.out.1, H1.out⟩
        case measure => simp [intOf]; omega
    · obtain rfl : k = l.length := by omega
      have ha := HR.out.1
      rw [List.take_length] at ha
      have e5 := HF.out.2 ha
      have ik : ¬ (l.length : Int) < (l.length : Int) := by omega
      clear ha
      go_wp2
      go_ret
      first | exact ⟨by rw [e5]; rfl, HR.out.2⟩ | exact ⟨rfl, HR.out.2⟩

set_option maxHeartbeats 1000000 in
theorem rsays1_any (c : Nat) (x : Wr) (w : World) (hc : c < 64) (hm : x.kind = 1 ∨ x.kind = 2 → x.mask < 64) :
    Calls Tryz.prog 80 #[.int .u16 (c : Nat), (Value.agg #[.int .u8 (x.kind : Nat), .int .u16 (x.mask : Nat), .int .i64 x.num, .string x.text])] w fun e w' => e = .returned (.int .u16 (lefC c x : Nat)) ∧ Below w.heap.size w w' := by
  have L : Hid (Below w.heap.size w (w.alloc (.cells (#[.int .u8 (x.kind : Nat), .int .u16 (x.mask : Nat), .int .i64 x.num, .string x.text]) 58))) := (Below.refl _ w).alloc (Nat.le_refl _) _
  obtain ⟨k, m, n, t⟩ := x
  simp only at hm
  have hk : k = 1 ∨ k = 2 ∨ k = 5 ∨ k = 6 ∨ k = 7 ∨ (k ≠ 1 ∧ k ≠ 2 ∧ k ≠ 5 ∧ k ≠ 6 ∧ k ≠ 7) := by omega
  rcases hk with rfl | rfl | rfl | rfl | rfl | ⟨n1, n2, n5, n6, n7⟩
  · have f := and_fin ⟨c, hc⟩ ⟨m, hm (.inl rfl)⟩
    have e := f.2.1
    have e2 := f.2.2.1
    have e3 := f.2.2.2.1
    simp only at e e2 e3
    clear f
    have e4 : (c : Int) - bits .and .u16 (c : Int) (m : Int) = ((c &&& (63 ^^^ m) : Nat) : Int) := by rw [e, e2]
    have lt : c &&& (63 ^^^ m) < 64 := e3
    clear hc hm
    go_enter Tryz.func80, Tryz.ntmps80
    go_wp2
    go_ret
    exact ⟨rfl, L.out⟩
  · have e := (and_fin ⟨c, hc⟩ ⟨m, hm (.inr rfl)⟩).2.1
    simp only at e
    go_enter Tryz.func80, Tryz.ntmps80
    go_wp2
    go_ret
    exact ⟨by rw [show lefC c ⟨2, m, n, t⟩ = c &&& m from rfl, ← e]; rfl, L.out⟩
  · have e := (or_fin ⟨c, hc⟩).1
    simp only at e
    go_enter Tryz.func80, Tryz.ntmps80
    go_wp2
    go_ret
    exact ⟨by rw [show lefC c ⟨5, m, n, t⟩ = c ||| 4 from rfl, ← e]; rfl, L.out⟩
  · have e := (or_fin ⟨c, hc⟩).2.1
    simp only at e
    go_enter Tryz.func80, Tryz.ntmps80
    go_wp2
    go_ret
    exact ⟨by rw [show lefC c ⟨6, m, n, t⟩ = c ||| 16 from rfl, ← e]; rfl, L.out⟩
  · go_enter Tryz.func80, Tryz.ntmps80
    go_wp2
    go_ret
    exact ⟨rfl, L.out⟩
  · have e : lefC c ⟨k, m, n, t⟩ = c := by simp [lefC, n1, n2, n5, n6, n7]
    have k1 : ((k : Int) == 1) = false := beq_eq_false_iff_ne.2 (by omega)
    have k2 : ((k : Int) == 2) = false := beq_eq_false_iff_ne.2 (by omega)
    have k5 : ((k : Int) == 5) = false := beq_eq_false_iff_ne.2 (by omega)
    have k6 : ((k : Int) == 6) = false := beq_eq_false_iff_ne.2 (by omega)
    have k7 : ((k : Int) == 7) = false := beq_eq_false_iff_ne.2 (by omega)
    rw [e]
    clear n1 n2 n5 n6 n7 e
    go_enter Tryz.func80, Tryz.ntmps80
    go_wp2
    go_ret
    exact ⟨rfl, L.out⟩

end Go.Proofs.YtbnbfgkcndomaabGreatDoor
