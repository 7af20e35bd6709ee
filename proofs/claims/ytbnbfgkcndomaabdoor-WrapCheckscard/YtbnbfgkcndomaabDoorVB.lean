/-
  The document's wrappers: Check, Checks, says, Says.
-/
import Derived.Test.YtbnbfgkcndomaabDoorVA
namespace Go.Proofs.YtbnbfgkcndomaabDoor
open Go.RowKit Go.Shelf

set_option maxHeartbeats 1000000 in
theorem rtextW_any (s : ByteArray) (w : World) (hT : Tab w) :
    Calls Tryd.prog 13 #[.string s] w fun e w' => e = .returned (.bool (txB s 64)) ∧ Below w.heap.size w w' := by
  by_cases hs : (s.size : Int) ≤ 64
  · have h2 : Hid (Calls Tryd.prog 17 #[.string s] w fun e w' => e = .returned (.bool (Lib.validD s.data.toList)) ∧ Below w.heap.size w w') := Any.utf8_ValidString Tryd.lays196 s w (by omega) hT
    have e1 : txB s 64 = Lib.validD s.data.toList := by simp [txB, show s.size ≤ 64 by omega]
    rw [e1]
    generalize Lib.validD s.data.toList = b at *
    clear e1
    go_enter Tryd.func13, Tryd.ntmps13
    go_wp2_with fail
    refine h2.out.mono ?_
    rintro e w1 ⟨rfl, hb⟩
    go_wp2
    go_ret
    exact ⟨rfl, hb⟩
  · have e1 : txB s 64 = false := by simp [txB, show ¬ s.size ≤ 64 by omega]
    rw [e1]
    clear e1
    go_enter Tryd.func13, Tryd.ntmps13
    go_wp2
    go_ret
    exact ⟨rfl, Below.refl _ _⟩

theorem nat_b (m j : Nat) : ((m : Int) == (j : Int)) = decide (m = j) := by
  by_cases h : m = j
  · rw [decide_eq_true h, h]; exact beq_self_eq_true _
  · rw [decide_eq_false h]; exact beq_eq_false_iff_ne.2 (by omega)
theorem mask_doc (m : Nat) : decide (m < 64) = (((m : Int) == 0) || decide ((m : Int) ≤ 63)) := by
  by_cases h : m < 64
  · rw [decide_eq_true h, decide_eq_true (show (m : Int) ≤ 63 by omega), Bool.or_true]
  · rw [decide_eq_false h, decide_eq_false (show ¬ (m : Int) ≤ 63 by omega), Bool.or_false]
    exact (beq_eq_false_iff_ne.2 (by omega)).symm
theorem ok_out {x : Wr} (h : x.kind = 0 ∨ 7 < x.kind) : okW x = false := by
  unfold okW
  rcases h with h | h
  · rw [decide_eq_false (show ¬ 1 ≤ x.kind by omega)]; rfl
  · rw [decide_eq_false (show ¬ x.kind ≤ 7 by omega)]; simp

set_option maxHeartbeats 4000000 in
theorem rWCheck_any (x : Wr) (w : World) (hT : Tab w) :
    Calls Tryd.prog 7 #[(Value.agg #[.int .u8 (x.kind : Nat), .int .u16 (x.mask : Nat), .int .i64 x.num, .string x.text])] w fun e w' => e = .returned (.int .i64 (if okW x then 0 else 70)) ∧ Below w.heap.size w w' := by
  have L : Hid (Below w.heap.size w (w.alloc (.cells (#[.int .u8 (x.kind : Nat), .int .u16 (x.mask : Nat), .int .i64 x.num, .string x.text]) 24))) := (Below.refl _ w).alloc (Nat.le_refl _) _
  have K : Hid (Blk (w.alloc (.cells (#[.int .u8 (x.kind : Nat), .int .u16 (x.mask : Nat), .int .i64 x.num, .string x.text]) 24)) w.heap.size (#[.int .u8 (x.kind : Nat), .int .u16 (x.mask : Nat), .int .i64 x.num, .string x.text]) 24) := Blk.new _ _ _
  have HV : Hid (Calls Tryd.prog 13 #[.string x.text] (w.alloc (.cells (#[.int .u8 (x.kind : Nat), .int .u16 (x.mask : Nat), .int .i64 x.num, .string x.text]) 24)) fun e w' => e = .returned (.bool (txB x.text 64)) ∧ Below (w.alloc (.cells (#[.int .u8 (x.kind : Nat), .int .u16 (x.mask : Nat), .int .i64 x.num, .string x.text]) 24)).heap.size (w.alloc (.cells (#[.int .u8 (x.kind : Nat), .int .u16 (x.mask : Nat), .int .i64 x.num, .string x.text]) 24)) w') := rtextW_any x.text _ (hT.below L.out)
  clear hT
  obtain ⟨k, m, n, t⟩ := x
  simp only at L K HV
  have hk : k = 1 ∨ k = 2 ∨ k = 3 ∨ k = 4 ∨ k = 5 ∨ k = 6 ∨ k = 7 ∨ (k = 0 ∨ 7 < k) := by omega
  have H0 : t.size = 0 ∨ t.size ≠ 0 := by omega
  rcases hk with h | h | h | h | h | h | h | h
  case inr.inr.inr.inr.inr.inr.inr =>
    rw [ok_out (x := ⟨k, m, n, t⟩) h]
    rcases h with rfl | h
    · go_enter Tryd.func7, Tryd.ntmps7
      go_wp2
      all_goals
        go_ret
        exact ⟨rfl, L.out⟩
    · have k1 : ((k : Int) == 1) = false := beq_eq_false_iff_ne.2 (by omega)
      have k2 : ((k : Int) == 2) = false := beq_eq_false_iff_ne.2 (by omega)
      have k3 : ((k : Int) == 3) = false := beq_eq_false_iff_ne.2 (by omega)
      have k4 : ((k : Int) == 4) = false := beq_eq_false_iff_ne.2 (by omega)
      have k5 : ((k : Int) == 5) = false := beq_eq_false_iff_ne.2 (by omega)
      have k6 : ((k : Int) == 6) = false := beq_eq_false_iff_ne.2 (by omega)
      have g1 : (1 : Int) ≤ (k : Int) := by omega
      have g2 : ¬ (k : Int) ≤ 7 := by omega
      clear h H0
      go_enter Tryd.func7, Tryd.ntmps7
      go_wp2
      all_goals
        go_ret
        exact ⟨rfl, L.out⟩
  all_goals subst h
  case inr.inr.inr.inl =>
    have ex : okW ⟨4, m, n, t⟩ = (((m : Int) == 0) && ((n == 0) && txB t 64)) := by
      simp only [okW, mskB, numB, txtB]
      rw [show ((m : Int) == 0) = decide (m = 0) from nat_b m 0]
      rfl
    rw [ex]
    clear ex H0
    generalize txB t 64 = v at *
    obtain ⟨b1, h1⟩ : ∃ b, ((m : Int) == 0) = b := ⟨_, rfl⟩
    obtain ⟨b2, h2⟩ : ∃ b, (n == 0) = b := ⟨_, rfl⟩
    rw [h1, h2]
    cases b1
    · go_enter Tryd.func7, Tryd.ntmps7
      go_wp2
      all_goals
        go_ret
        exact ⟨rfl, L.out⟩
    cases b2
    · go_enter Tryd.func7, Tryd.ntmps7
      go_wp2
      all_goals
        go_ret
        exact ⟨rfl, L.out⟩
    cases v
    all_goals
      go_enter Tryd.func7, Tryd.ntmps7
      go_wp2_with fail
      refine HV.out.mono ?_
      rintro e w1 ⟨rfl, hb⟩
      have K1 := K.out.below hb
      obtain ⟨c0, c1, c2, c3⟩ : _ ∧ _ ∧ _ ∧ _ := ⟨K1.cell 0, K1.cell 1, K1.cell 2, K1.cell 3⟩
      have L1 : Hid (Below w.heap.size w w1) := L.out.trans (hb.mono L.out.size)
      clear K1 hb
      go_wp2
      go_ret
      exact ⟨rfl, L1.out⟩
  case inr.inr.inr.inr.inr.inl =>
    have ex : okW ⟨6, m, n, t⟩ = (((m : Int) == 0) && ((n == 0) && (txB t 64 && decide (t.size ≠ 0)))) := by
      simp only [okW, mskB, numB, txtB]
      rw [show ((m : Int) == 0) = decide (m = 0) from nat_b m 0]
      rfl
    rw [ex]
    clear ex
    generalize txB t 64 = v at *
    obtain ⟨b1, h1⟩ : ∃ b, ((m : Int) == 0) = b := ⟨_, rfl⟩
    obtain ⟨b2, h2⟩ : ∃ b, (n == 0) = b := ⟨_, rfl⟩
    rw [h1, h2]
    cases b1
    · go_enter Tryd.func7, Tryd.ntmps7
      go_wp2
      all_goals
        go_ret
        exact ⟨rfl, L.out⟩
    cases b2
    · go_enter Tryd.func7, Tryd.ntmps7
      go_wp2
      all_goals
        go_ret
        exact ⟨rfl, L.out⟩
    rcases H0 with h0 | h0
    · obtain rfl := txt_nil h0
      clear h0
      cases v
      all_goals
        go_enter Tryd.func7, Tryd.ntmps7
        go_wp2_with fail
        refine HV.out.mono ?_
        rintro e w1 ⟨rfl, hb⟩
        have K1 := K.out.below hb
        obtain ⟨c0, c1, c2, c3⟩ : _ ∧ _ ∧ _ ∧ _ := ⟨K1.cell 0, K1.cell 1, K1.cell 2, K1.cell 3⟩
        have L1 : Hid (Below w.heap.size w w1) := L.out.trans (hb.mono L.out.size)
        clear K1 hb
        go_wp2
        go_ret
        exact ⟨rfl, L1.out⟩
    · obtain ⟨hne, hie⟩ := txt_ne h0
      rw [decide_eq_true h0]
      clear h0
      cases v
      all_goals
        go_enter Tryd.func7, Tryd.ntmps7
        go_wp2_with fail
        refine HV.out.mono ?_
        rintro e w1 ⟨rfl, hb⟩
        have K1 := K.out.below hb
        obtain ⟨c0, c1, c2, c3⟩ : _ ∧ _ ∧ _ ∧ _ := ⟨K1.cell 0, K1.cell 1, K1.cell 2, K1.cell 3⟩
        have L1 : Hid (Below w.heap.size w w1) := L.out.trans (hb.mono L.out.size)
        clear K1 hb
        go_wp2
        go_ret
        exact ⟨rfl, L1.out⟩
  all_goals clear HV K
  case inl =>
    have ex : okW ⟨1, m, n, t⟩ = ((((m : Int) == 0) || decide ((m : Int) ≤ 63)) && ((n == 0) && decide (t.size = 0))) := by
      rw [← mask_doc]; rfl
    rw [ex]
    clear ex
    obtain ⟨b1, h1⟩ : ∃ b, ((m : Int) == 0) = b := ⟨_, rfl⟩
    obtain ⟨b3, h3⟩ : ∃ b, decide ((m : Int) ≤ 63) = b := ⟨_, rfl⟩
    obtain ⟨b2, h2⟩ : ∃ b, (n == 0) = b := ⟨_, rfl⟩
    rw [h1, h2, h3]
    rcases H0 with h0 | h0
    · obtain rfl := txt_nil h0
      clear h0
      cases b1 <;> cases b2 <;> cases b3
      all_goals
        go_enter Tryd.func7, Tryd.ntmps7
        go_wp2
        go_ret
        exact ⟨rfl, L.out⟩
    · obtain ⟨hne, hie⟩ := txt_ne h0
      rw [decide_eq_false h0]
      clear h0
      cases b1 <;> cases b2 <;> cases b3
      all_goals
        go_enter Tryd.func7, Tryd.ntmps7
        go_wp2
        go_ret
        exact ⟨rfl, L.out⟩
  case inr.inl =>
    have ex : okW ⟨2, m, n, t⟩ = ((((m : Int) == 0) || decide ((m : Int) ≤ 63)) && ((n == 0) && decide (t.size = 0))) := by
      rw [← mask_doc]; rfl
    rw [ex]
    clear ex
    obtain ⟨b1, h1⟩ : ∃ b, ((m : Int) == 0) = b := ⟨_, rfl⟩
    obtain ⟨b3, h3⟩ : ∃ b, decide ((m : Int) ≤ 63) = b := ⟨_, rfl⟩
    obtain ⟨b2, h2⟩ : ∃ b, (n == 0) = b := ⟨_, rfl⟩
    rw [h1, h2, h3]
    rcases H0 with h0 | h0
    · obtain rfl := txt_nil h0
      clear h0
      cases b1 <;> cases b2 <;> cases b3
      all_goals
        go_enter Tryd.func7, Tryd.ntmps7
        go_wp2
        go_ret
        exact ⟨rfl, L.out⟩
    · obtain ⟨hne, hie⟩ := txt_ne h0
      rw [decide_eq_false h0]
      clear h0
      cases b1 <;> cases b2 <;> cases b3
      all_goals
        go_enter Tryd.func7, Tryd.ntmps7
        go_wp2
        go_ret
        exact ⟨rfl, L.out⟩
  case inr.inr.inl =>
    have ex : okW ⟨3, m, n, t⟩ = (((m : Int) == 0) && ((decide (0 ≤ n) && decide (n ≤ 16384)) && decide (t.size = 0))) := by
      rw [show ((m : Int) == 0) = decide (m = 0) from nat_b m 0]; rfl
    rw [ex]
    clear ex
    obtain ⟨b1, h1⟩ : ∃ b, ((m : Int) == 0) = b := ⟨_, rfl⟩
    obtain ⟨b3, h3⟩ : ∃ b, decide (0 ≤ n) = b := ⟨_, rfl⟩
    obtain ⟨b2, h2⟩ : ∃ b, decide (n ≤ 16384) = b := ⟨_, rfl⟩
    rw [h1, h2, h3]
    rcases H0 with h0 | h0
    · obtain rfl := txt_nil h0
      clear h0
      cases b1 <;> cases b2 <;> cases b3
      all_goals
        go_enter Tryd.func7, Tryd.ntmps7
        go_wp2
        go_ret
        exact ⟨rfl, L.out⟩
    · obtain ⟨hne, hie⟩ := txt_ne h0
      rw [decide_eq_false h0]
      clear h0
      cases b1 <;> cases b2 <;> cases b3
      all_goals
        go_enter Tryd.func7, Tryd.ntmps7
        go_wp2
        go_ret
        exact ⟨rfl, L.out⟩
  case inr.inr.inr.inr.inl =>
    have ex : okW ⟨5, m, n, t⟩ = (((m : Int) == 0) && ((decide (-1 ≤ n) && decide (n ≤ 1048576)) && decide (t.size = 0))) := by
      rw [show ((m : Int) == 0) = decide (m = 0) from nat_b m 0]; rfl
    rw [ex]
    clear ex
    obtain ⟨b1, h1⟩ : ∃ b, ((m : Int) == 0) = b := ⟨_, rfl⟩
    obtain ⟨b3, h3⟩ : ∃ b, decide (-1 ≤ n) = b := ⟨_, rfl⟩
    obtain ⟨b2, h2⟩ : ∃ b, decide (n ≤ 1048576) = b := ⟨_, rfl⟩
    rw [h1, h2, h3]
    rcases H0 with h0 | h0
    · obtain rfl := txt_nil h0
      clear h0
      cases b1 <;> cases b2 <;> cases b3
      all_goals
        go_enter Tryd.func7, Tryd.ntmps7
        go_wp2
        go_ret
        exact ⟨rfl, L.out⟩
    · obtain ⟨hne, hie⟩ := txt_ne h0
      rw [decide_eq_false h0]
      clear h0
      cases b1 <;> cases b2 <;> cases b3
      all_goals
        go_enter Tryd.func7, Tryd.ntmps7
        go_wp2
        go_ret
        exact ⟨rfl, L.out⟩
  case inr.inr.inr.inr.inr.inr.inl =>
    have ex : okW ⟨7, m, n, t⟩ = (((m : Int) == 0) && ((n == 0) && decide (t.size = 0))) := by
      rw [show ((m : Int) == 0) = decide (m = 0) from nat_b m 0]; rfl
    rw [ex]
    clear ex
    obtain ⟨b1, h1⟩ : ∃ b, ((m : Int) == 0) = b := ⟨_, rfl⟩
    obtain ⟨b2, h2⟩ : ∃ b, (n == 0) = b := ⟨_, rfl⟩
    rw [h1, h2]
    rcases H0 with h0 | h0
    · obtain rfl := txt_nil h0
      clear h0
      cases b1 <;> cases b2
      all_goals
        go_enter Tryd.func7, Tryd.ntmps7
        go_wp2
        go_ret
        exact ⟨rfl, L.out⟩
    · obtain ⟨hne, hie⟩ := txt_ne h0
      rw [decide_eq_false h0]
      clear h0
      cases b1 <;> cases b2
      all_goals
        go_enter Tryd.func7, Tryd.ntmps7
        go_wp2
        go_ret
        exact ⟨rfl, L.out⟩

end Go.Proofs.YtbnbfgkcndomaabDoor
