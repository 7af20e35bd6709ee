/-
  Package wrap: which wrappers may be, what they leave; Check, Says.
-/
import Derived.Test.YtbnbfgkcndomaabGreatDoorVP
namespace Go.Proofs.YtbnbfgkcndomaabGreatDoor
open Go.RowKit Go.Shelf

theorem ne_of (k : Nat) (j : Nat) (h : k ≠ j) : ((k : Int) == (j : Int)) = false := beq_eq_false_iff_ne.2 (by omega)

set_option maxHeartbeats 1000000 in
theorem maskMay_any (x : Wr) (w : World) (hm : x.mask < 65536) :
    Calls Tryz.prog 101 #[(Value.agg #[.int .u8 (x.kind : Nat), .int .u16 (x.mask : Nat), .int .i64 x.num, .string x.text])] w fun e w' => e = .returned (.bool (mskB x)) ∧ Below w.heap.size w w' := by
  have L : Hid (Below w.heap.size w (w.alloc (.cells (#[.int .u8 (x.kind : Nat), .int .u16 (x.mask : Nat), .int .i64 x.num, .string x.text]) 58))) := (Below.refl _ w).alloc (Nat.le_refl _) _
  obtain ⟨k, m, n, t⟩ := x
  by_cases h : k = 1 ∨ k = 2
  · have e1 : mskB ⟨k, m, n, t⟩ = (bits .andNot .u16 (m : Int) 63 == 0) := by rw [bey2 m hm]; unfold mskB; exact if_pos h
    rw [e1]
    clear e1 hm
    rcases h with rfl | rfl
    all_goals
      go_enter Tryz.func101, Tryz.ntmps101
      go_wp2
      go_ret
      exact ⟨rfl, L.out⟩
  · have e1 : mskB ⟨k, m, n, t⟩ = ((m : Int) == 0) := by
      unfold mskB
      rw [if_neg h]
      by_cases h0 : m = 0
      · subst h0; rfl
      · rw [decide_eq_false h0]; exact (beq_eq_false_iff_ne.2 (by omega)).symm
    rw [e1]
    have k1 : ((k : Int) == 1) = false := beq_eq_false_iff_ne.2 (by omega)
    have k2 : ((k : Int) == 2) = false := beq_eq_false_iff_ne.2 (by omega)
    clear e1 hm h
    go_enter Tryz.func101, Tryz.ntmps101
    go_wp2
    go_ret
    exact ⟨rfl, L.out⟩

theorem and_dec {a b : Prop} [Decidable a] [Decidable b] {x y : Bool} (h1 : decide a = x) (h2 : decide b = y) : (decide a && decide b) = (x && y) := by rw [h1, h2]

set_option maxHeartbeats 1000000 in
theorem numMay_any (x : Wr) (w : World) :
    Calls Tryz.prog 102 #[(Value.agg #[.int .u8 (x.kind : Nat), .int .u16 (x.mask : Nat), .int .i64 x.num, .string x.text])] w fun e w' => e = .returned (.bool (numB x)) ∧ Below w.heap.size w w' := by
  have L : Hid (Below w.heap.size w (w.alloc (.cells (#[.int .u8 (x.kind : Nat), .int .u16 (x.mask : Nat), .int .i64 x.num, .string x.text]) 58))) := (Below.refl _ w).alloc (Nat.le_refl _) _
  obtain ⟨k, m, n, t⟩ := x
  by_cases h3 : k = 3
  · subst h3
    have main : ∀ b1 b2, decide (0 ≤ n) = b1 → decide (n ≤ 16384) = b2 → Calls Tryz.prog 102 #[.agg #[.int .u8 ((3 : Nat) : Int), .int .u16 (m : Nat), .int .i64 n, .string t]] w fun e w' => e = .returned (.bool (b1 && b2)) ∧ Below w.heap.size w w' := by
      intro b1 b2 h1 h2
      cases b1 <;> cases b2
      all_goals
        go_enter Tryz.func102, Tryz.ntmps102
        go_wp2
        go_ret
        exact ⟨rfl, L.out⟩
    exact main _ _ rfl rfl
  by_cases h5 : k = 5
  · subst h5
    have main : ∀ b1 b2, decide (-1 ≤ n) = b1 → decide (n ≤ 1048576) = b2 → Calls Tryz.prog 102 #[.agg #[.int .u8 ((5 : Nat) : Int), .int .u16 (m : Nat), .int .i64 n, .string t]] w fun e w' => e = .returned (.bool (b1 && b2)) ∧ Below w.heap.size w w' := by
      intro b1 b2 h1 h2
      cases b1 <;> cases b2
      all_goals
        go_enter Tryz.func102, Tryz.ntmps102
        go_wp2
        go_ret
        exact ⟨rfl, L.out⟩
    exact main _ _ rfl rfl
  · have e1 : numB ⟨k, m, n, t⟩ = (n == 0) := by
      unfold numB
      rw [if_neg h3, if_neg h5]
      rfl
    rw [e1]
    have k1 : ((k : Int) == 3) = false := beq_eq_false_iff_ne.2 (by omega)
    have k2 : ((k : Int) == 5) = false := beq_eq_false_iff_ne.2 (by omega)
    clear e1 h3 h5
    go_enter Tryz.func102, Tryz.ntmps102
    go_wp2
    go_ret
    exact ⟨rfl, L.out⟩

set_option maxHeartbeats 2000000 in
theorem textWMay_any (x : Wr) (w : World) (hT : Tab w) (hs : x.text.size ≤ 9223372036854775807) :
    Calls Tryz.prog 103 #[(Value.agg #[.int .u8 (x.kind : Nat), .int .u16 (x.mask : Nat), .int .i64 x.num, .string x.text])] w fun e w' => e = .returned (.bool (txtB x)) ∧ Below w.heap.size w w' := by
  have L : Hid (Below w.heap.size w (w.alloc (.cells (#[.int .u8 (x.kind : Nat), .int .u16 (x.mask : Nat), .int .i64 x.num, .string x.text]) 58))) := (Below.refl _ w).alloc (Nat.le_refl _) _
  have K : Hid (Blk (w.alloc (.cells (#[.int .u8 (x.kind : Nat), .int .u16 (x.mask : Nat), .int .i64 x.num, .string x.text]) 58)) w.heap.size (#[.int .u8 (x.kind : Nat), .int .u16 (x.mask : Nat), .int .i64 x.num, .string x.text]) 58) := Blk.new _ _ _
  have HV : Hid (Calls Tryz.prog 134 #[.string x.text] (w.alloc (.cells (#[.int .u8 (x.kind : Nat), .int .u16 (x.mask : Nat), .int .i64 x.num, .string x.text]) 58)) fun e w' => e = .returned (.bool (Lib.validD x.text.data.toList)) ∧ Below (w.alloc (.cells (#[.int .u8 (x.kind : Nat), .int .u16 (x.mask : Nat), .int .i64 x.num, .string x.text]) 58)).heap.size (w.alloc (.cells (#[.int .u8 (x.kind : Nat), .int .u16 (x.mask : Nat), .int .i64 x.num, .string x.text]) 58)) w') := Any.utf8_ValidString Tryz.lays196 x.text _ hs (hT.below L.out)
  have et : txB x.text 64 = (decide (x.text.size ≤ 64) && Lib.validD x.text.data.toList) := rfl
  have ex : txtB x = (if x.kind = 4 then txB x.text 64 else if x.kind = 6 then txB x.text 64 && decide (x.text.size ≠ 0) else decide (x.text.size = 0)) := rfl
  rw [et] at ex
  clear hs hT et
  generalize Lib.validD x.text.data.toList = v at *
  obtain ⟨k, m, n, t⟩ := x
  have hk : k = 4 ∨ k = 6 ∨ (k ≠ 4 ∧ k ≠ 6) := by omega
  have H0 : t.size = 0 ∨ t.size ≠ 0 := by omega
  have H6 : t.size ≤ 64 ∨ 64 < t.size := by omega
  rw [ex]
  rcases H0 with h0 | h0
  · obtain rfl := txt_nil h0
    clear H6 h0 ex
    rcases hk with rfl | rfl | ⟨n4, n6⟩
    · rw [if_pos rfl]
      cases v
      all_goals
        go_enter Tryz.func103, Tryz.ntmps103
        go_wp2_with fail
        refine HV.out.mono ?_
        rintro e w1 ⟨rfl, hb⟩
        have K1 := K.out.below hb
        obtain ⟨c0, c1, c2, c3⟩ : _ ∧ _ ∧ _ ∧ _ := ⟨K1.cell 0, K1.cell 1, K1.cell 2, K1.cell 3⟩
        have L1 : Hid (Below w.heap.size w w1) := L.out.trans (hb.mono L.out.size)
        clear K1 hb
        go_wp2
        go_ret
        exact ⟨rfl, L1.out⟩
    · rw [if_neg (by simp), if_pos rfl]
      cases v
      all_goals
        go_enter Tryz.func103, Tryz.ntmps103
        go_wp2_with fail
        refine HV.out.mono ?_
        rintro e w1 ⟨rfl, hb⟩
        have K1 := K.out.below hb
        obtain ⟨c0, c1, c2, c3⟩ : _ ∧ _ ∧ _ ∧ _ := ⟨K1.cell 0, K1.cell 1, K1.cell 2, K1.cell 3⟩
        have L1 : Hid (Below w.heap.size w w1) := L.out.trans (hb.mono L.out.size)
        clear K1 hb
        go_wp2
        go_ret
        exact ⟨rfl, L1.out⟩
    · rw [if_neg n4, if_neg n6]
      have k1 : ((k : Int) == 4) = false := beq_eq_false_iff_ne.2 (by omega)
      have k2 : ((k : Int) == 6) = false := beq_eq_false_iff_ne.2 (by omega)
      clear n4 n6
      cases v
      all_goals
        go_enter Tryz.func103, Tryz.ntmps103
        go_wp2_with fail
        refine HV.out.mono ?_
        rintro e w1 ⟨rfl, hb⟩
        have K1 := K.out.below hb
        obtain ⟨c0, c1, c2, c3⟩ : _ ∧ _ ∧ _ ∧ _ := ⟨K1.cell 0, K1.cell 1, K1.cell 2, K1.cell 3⟩
        have L1 : Hid (Below w.heap.size w w1) := L.out.trans (hb.mono L.out.size)
        clear K1 hb
        go_wp2
        go_ret
        exact ⟨rfl, L1.out⟩
  obtain ⟨hne, hie⟩ := txt_ne h0
  have hz : decide (t.size ≠ 0) = true := decide_eq_true h0
  have hz2 : decide (t.size = 0) = false := decide_eq_false h0
  rcases H6 with h6 | h6
  · have s1 : (t.size : Int) ≤ 64 := by omega
    have s2 : decide (t.size ≤ 64) = true := decide_eq_true h6
    simp only [hz, hz2, s2, Bool.true_and, Bool.and_true]
    clear ex hz hz2 s2 h0 h6
    rcases hk with rfl | rfl | ⟨n4, n6⟩
    · rw [if_pos rfl]
      cases v
      all_goals
        go_enter Tryz.func103, Tryz.ntmps103
        go_wp2_with fail
        refine HV.out.mono ?_
        rintro e w1 ⟨rfl, hb⟩
        have K1 := K.out.below hb
        obtain ⟨c0, c1, c2, c3⟩ : _ ∧ _ ∧ _ ∧ _ := ⟨K1.cell 0, K1.cell 1, K1.cell 2, K1.cell 3⟩
        have L1 : Hid (Below w.heap.size w w1) := L.out.trans (hb.mono L.out.size)
        clear K1 hb
        go_wp2
        go_ret
        exact ⟨rfl, L1.out⟩
    · rw [if_neg (by simp), if_pos rfl]
      cases v
      all_goals
        go_enter Tryz.func103, Tryz.ntmps103
        go_wp2_with fail
        refine HV.out.mono ?_
        rintro e w1 ⟨rfl, hb⟩
        have K1 := K.out.below hb
        obtain ⟨c0, c1, c2, c3⟩ : _ ∧ _ ∧ _ ∧ _ := ⟨K1.cell 0, K1.cell 1, K1.cell 2, K1.cell 3⟩
        have L1 : Hid (Below w.heap.size w w1) := L.out.trans (hb.mono L.out.size)
        clear K1 hb
        go_wp2
        go_ret
        exact ⟨rfl, L1.out⟩
    · rw [if_neg n4, if_neg n6]
      have k1 : ((k : Int) == 4) = false := beq_eq_false_iff_ne.2 (by omega)
      have k2 : ((k : Int) == 6) = false := beq_eq_false_iff_ne.2 (by omega)
      clear n4 n6
      cases v
      all_goals
        go_enter Tryz.func103, Tryz.ntmps103
        go_wp2_with fail
        refine HV.out.mono ?_
        rintro e w1 ⟨rfl, hb⟩
        have K1 := K.out.below hb
        obtain ⟨c0, c1, c2, c3⟩ : _ ∧ _ ∧ _ ∧ _ := ⟨K1.cell 0, K1.cell 1, K1.cell 2, K1.cell 3⟩
        have L1 : Hid (Below w.heap.size w w1) := L.out.trans (hb.mono L.out.size)
        clear K1 hb
        go_wp2
        go_ret
        exact ⟨rfl, L1.out⟩
  · have s1 : ¬ (t.size : Int) ≤ 64 := by omega
    have s2 : decide (t.size ≤ 64) = false := decide_eq_false (by omega)
    simp only [hz, hz2, s2, Bool.false_and]
    clear ex hz hz2 s2 h0 h6 HV
    rcases hk with rfl | rfl | ⟨n4, n6⟩
    · rw [if_pos rfl]
      go_enter Tryz.func103, Tryz.ntmps103
      go_wp2
      go_ret
      exact ⟨rfl, L.out⟩
    · rw [if_neg (by simp), if_pos rfl]
      go_enter Tryz.func103, Tryz.ntmps103
      go_wp2
      go_ret
      exact ⟨rfl, L.out⟩
    · rw [if_neg n4, if_neg n6]
      have k1 : ((k : Int) == 4) = false := beq_eq_false_iff_ne.2 (by omega)
      have k2 : ((k : Int) == 6) = false := beq_eq_false_iff_ne.2 (by omega)
      clear n4 n6
      go_enter Tryz.func103, Tryz.ntmps103
      go_wp2
      go_ret
      exact ⟨rfl, L.out⟩

set_option maxHeartbeats 2000000 in
theorem wMay_any (x : Wr) (w : World) (hT : Tab w) (hw : x.wf) :
    Calls Tryz.prog 53 #[(Value.agg #[.int .u8 (x.kind : Nat), .int .u16 (x.mask : Nat), .int .i64 x.num, .string x.text])] w fun e w' => e = .returned (.bool (okW x)) ∧ Below w.heap.size w w' := by
  have L : Hid (Below w.heap.size w (w.alloc (.cells (#[.int .u8 (x.kind : Nat), .int .u16 (x.mask : Nat), .int .i64 x.num, .string x.text]) 58))) := (Below.refl _ w).alloc (Nat.le_refl _) _
  have K : Hid (Blk (w.alloc (.cells (#[.int .u8 (x.kind : Nat), .int .u16 (x.mask : Nat), .int .i64 x.num, .string x.text]) 58)) w.heap.size (#[.int .u8 (x.kind : Nat), .int .u16 (x.mask : Nat), .int .i64 x.num, .string x.text]) 58) := Blk.new _ _ _
  have H1 : Hid (∀ w, Calls Tryz.prog 101 #[(Value.agg #[.int .u8 (x.kind : Nat), .int .u16 (x.mask : Nat), .int .i64 x.num, .string x.text])] w fun e w' => e = .returned (.bool (mskB x)) ∧ Below w.heap.size w w') := fun w => maskMay_any x w hw.2.1
  have H2 : Hid (∀ w, Calls Tryz.prog 102 #[(Value.agg #[.int .u8 (x.kind : Nat), .int .u16 (x.mask : Nat), .int .i64 x.num, .string x.text])] w fun e w' => e = .returned (.bool (numB x)) ∧ Below w.heap.size w w') := fun w => numMay_any x w
  have H3 : Hid (∀ w, Tab w → Calls Tryz.prog 103 #[(Value.agg #[.int .u8 (x.kind : Nat), .int .u16 (x.mask : Nat), .int .i64 x.num, .string x.text])] w fun e w' => e = .returned (.bool (txtB x)) ∧ Below w.heap.size w w') := fun w hT => textWMay_any x w hT hw.2.2.1
  have ex : okW x = (decide ((1 : Int) ≤ (x.kind : Int)) && (decide ((x.kind : Int) ≤ 7) && (mskB x && (numB x && txtB x)))) := by
    unfold okW
    rw [show decide ((1 : Int) ≤ (x.kind : Int)) = decide (1 ≤ x.kind) by apply decide_eq_decide.2; omega, show decide ((x.kind : Int) ≤ 7) = decide (x.kind ≤ 7) by apply decide_eq_decide.2; omega]
  rw [ex]
  have HT : Hid (Tab w) := hT
  clear ex hw hT
  generalize mskB x = b1 at *
  generalize numB x = b2 at *
  generalize txtB x = b3 at *
  by_cases h1 : (1 : Int) ≤ (x.kind : Int)
  case neg =>
    rw [decide_eq_false h1, Bool.false_and]
    go_enter Tryz.func53, Tryz.ntmps53
    go_wp2
    go_ret
    exact ⟨rfl, L.out⟩
  by_cases h2 : (x.kind : Int) ≤ 7
  case neg =>
    rw [decide_eq_true h1, decide_eq_false h2, Bool.true_and, Bool.false_and]
    go_enter Tryz.func53, Tryz.ntmps53
    go_wp2
    go_ret
    exact ⟨rfl, L.out⟩
  rw [decide_eq_true h1, decide_eq_true h2, Bool.true_and, Bool.true_and]
  cases b1
  · rw [Bool.false_and]
    go_enter Tryz.func53, Tryz.ntmps53
    go_wp2_with fail
    refine (H1.out _).mono ?_
    rintro e w1 ⟨rfl, hb⟩
    have L1 : Hid (Below w.heap.size w w1) := L.out.trans (hb.mono L.out.size)
    clear hb
    go_wp2
    go_ret
    exact ⟨rfl, L1.out⟩
  rw [Bool.true_and]
  cases b2
  · rw [Bool.false_and]
    go_enter Tryz.func53, Tryz.ntmps53
    go_wp2_with fail
    refine (H1.out _).mono ?_
    rintro e w1 ⟨rfl, hb⟩
    have K1 := K.out.below hb
    have L1 : Hid (Below w.heap.size w w1) := L.out.trans (hb.mono L.out.size)
    obtain ⟨c0, c1, c2, c3⟩ : _ ∧ _ ∧ _ ∧ _ := ⟨K1.cell 0, K1.cell 1, K1.cell 2, K1.cell 3⟩
    clear hb K1
    go_wp2_with fail
    refine (H2.out _).mono ?_
    rintro e w2 ⟨rfl, hb⟩
    have L2 : Hid (Below w.heap.size w w2) := L1.out.trans (hb.mono L1.out.size)
    clear hb
    go_wp2
    go_ret
    exact ⟨rfl, L2.out⟩
  rw [Bool.true_and]
  go_enter Tryz.func53, Tryz.ntmps53
  go_wp2_with fail
  refine (H1.out _).mono ?_
  rintro e w1 ⟨rfl, hb⟩
  have K1 := K.out.below hb
  have L1 : Hid (Below w.heap.size w w1 ∧ Blk w1 w.heap.size (#[.int .u8 (x.kind : Nat), .int .u16 (x.mask : Nat), .int .i64 x.num, .string x.text]) 58) := ⟨L.out.trans (hb.mono L.out.size), K1⟩
  obtain ⟨c0, c1, c2, c3⟩ : _ ∧ _ ∧ _ ∧ _ := ⟨K1.cell 0, K1.cell 1, K1.cell 2, K1.cell 3⟩
  clear hb K1
  go_wp2_with fail
  refine (H2.out _).mono ?_
  rintro e w2 ⟨rfl, hb⟩
  have K2 := L1.out.2.below hb
  have L2 : Hid (Below w.heap.size w w2) := L1.out.1.trans (hb.mono L1.out.1.size)
  clear c0 c1 c2 c3
  obtain ⟨c0, c1, c2, c3⟩ : _ ∧ _ ∧ _ ∧ _ := ⟨K2.cell 0, K2.cell 1, K2.cell 2, K2.cell 3⟩
  clear hb K2
  go_wp2_with fail
  refine (H3.out _ (HT.out.below L2.out)).mono ?_
  rintro e w3 ⟨rfl, hb⟩
  have L3 : Hid (Below w.heap.size w w3) := L2.out.trans (hb.mono L2.out.size)
  clear hb
  go_wp2
  go_ret
  exact ⟨rfl, L3.out⟩

set_option maxHeartbeats 1000000 in
theorem checkAll_any (l : List Wr) (v : Value) (w : World) (hT : Tab w) (hv : Wraps w v l) (hs : ∀ x ∈ l, x.wf) :
    Calls Tryz.prog 52 #[v] w fun e w' => e = .returned (.int .i64 (ckE l)) ∧ Below w.heap.size w w' := by
  obtain ⟨oa, cap, rfl, hc, hg⟩ := hv
  have HG : Hid (0 < l.length → ∃ g o, oa = some ⟨g, o, none⟩ ∧ g < w.heap.size ∧ ∀ i (h : i < l.length), WrAt w g (o + i * 4) l[i]) := hg
  have HH : Hid ((∀ x ∈ l, x.wf) ∧ Tab w) := ⟨hs, hT⟩
  clear hg hs hT
  unfold ckE
  by_cases hm : 16 < l.length
  · rw [if_pos hm]
    go_enter Tryz.func52, Tryz.ntmps52
    go_wp2
    go_ret
    exact ⟨rfl, Below.refl _ _⟩
  rw [if_neg hm]
  obtain ⟨R, hR⟩ : ∃ R : Int, (if l.all okW = true then 0 else 70) = R := ⟨_, rfl⟩
  rw [hR]
  have HF : Hid ((l.all okW = false → R = 70) ∧ (l.all okW = true → R = 0)) := ⟨fun h => by rw [← hR, h]; rfl, fun h => by rw [← hR, h]; rfl⟩
  clear hR
  go_enter Tryz.func52, Tryz.ntmps52
  go_wp2_with fail
  go_loopw [10] (fun i wr => ∃ k : Nat, k ≤ l.length ∧ i = .int .i64 k ∧ (l.take k).all okW = true ∧ Below w.heap.size w wr) (fun i _ => l.length - (intOf i).toNat)
  case atStart => exact ⟨0, Nat.zero_le _, rfl, rfl, Below.refl _ _⟩
  case round =>
    obtain ⟨k, hk, rfl, ha, L⟩ := hrel
    by_cases hlt : k < l.length
    · obtain ⟨g, o, rfl, hg, hat⟩ := HG.out (by omega)
      have hx := (hat k hlt).kept (w' := wr) fun j => L.cell (p := ⟨g, j, none⟩) hg
      have e1 : l.take (k + 1) = l.take k ++ [l[k]] := (List.take_append_getElem hlt).symm
      have e2 : (l.take (k + 1)).all okW = okW l[k] := by rw [e1, List.all_append, ha]; simp
      have e3 : okW l[k] = false → R = 70 := fun h => HF.out.1 <| by
        rw [List.all_eq_false]; exact ⟨l[k], List.getElem_mem hlt, by rw [h]; simp⟩
      have HR : Hid (∀ w, Tab w → Calls Tryz.prog 53 #[(Value.agg #[.int .u8 (l[k].kind : Nat), .int .u16 (l[k].mask : Nat), .int .i64 l[k].num, .string l[k].text])] w fun e w' => e = .returned (.bool (okW l[k])) ∧ Below w.heap.size w w') := fun w hT =>
        wMay_any _ w hT (HH.out.1 _ (List.getElem_mem hlt))
      have L' : Below w.heap.size w (wr.alloc (.cells (#[.int .u8 (l[k].kind : Nat), .int .u16 (l[k].mask : Nat), .int .i64 l[k].num, .string l[k].text]) 58)) := L.alloc L.size _
      have HL : Hid ((l.take (k + 1)).all okW = okW l[k] ∧ (okW l[k] = false → R = 70) ∧ Below w.heap.size w (wr.alloc (.cells (#[.int .u8 (l[k].kind : Nat), .int .u16 (l[k].mask : Nat), .int .i64 l[k].num, .string l[k].text]) 58))) := ⟨e2, e3, L'⟩
      clear e1 e2 e3 L L' hat ha
      generalize okW l[k] = b at *
      generalize l[k] = x at *
      obtain ⟨x0, x1, x2, x3⟩ := hx
      have HE : Hid (b = false → R = 70) := HL.out.2.1
      cases b
      · go_wp2_with fail
        refine (HR.out _ (HH.out.2.below HL.out.2.2)).mono ?_
        rintro e w1 ⟨rfl, hb⟩
        have H1 : Hid (Below w.heap.size w w1) := HL.out.2.2.trans (hb.mono HL.out.2.2.size)
        clear hb
        go_wp2
        go_ret
        have e5 : R = 70 := by first | exact HE.out rfl | exact HE.out trivial
        exact ⟨by rw [e5]; rfl, H1.out⟩
      · go_wp2_with fail
        refine (HR.out _ (HH.out.2.below HL.out.2.2)).mono ?_
        rintro e w1 ⟨rfl, hb⟩
        have H1 : Hid (Below w.heap.size w w1) := HL.out.2.2.trans (hb.mono HL.out.2.2.size)
        clear hb
        go_wp2
        go_roundw
        case rel => exact ⟨k + 1, by omega, by go_num, HL.out.1, H1.out⟩
        case measure => simp [intOf]; omega
    · obtain rfl : k = l.length := by omega
      rw [List.take_length] at ha
      go_wp2
      go_ret
      have e5 := HF.out.2 ha
      exact ⟨by rw [e5]; rfl, L⟩

set_option maxHeartbeats 1000000 in
theorem left_any (c : Nat) (x : Wr) (w : World) (hc : c < 64) (hm : x.kind = 1 ∨ x.kind = 2 → x.mask < 64) :
    Calls Tryz.prog 56 #[.int .u16 (c : Nat), (Value.agg #[.int .u8 (x.kind : Nat), .int .u16 (x.mask : Nat), .int .i64 x.num, .string x.text])] w fun e w' => e = .returned (.int .u16 (lefC c x : Nat)) ∧ Below w.heap.size w w' := by
  have L : Hid (Below w.heap.size w (w.alloc (.cells (#[.int .u8 (x.kind : Nat), .int .u16 (x.mask : Nat), .int .i64 x.num, .string x.text]) 58))) := (Below.refl _ w).alloc (Nat.le_refl _) _
  obtain ⟨k, m, n, t⟩ := x
  simp only at hm
  have hk : k = 1 ∨ k = 2 ∨ k = 5 ∨ k = 6 ∨ k = 7 ∨ (k ≠ 1 ∧ k ≠ 2 ∧ k ≠ 5 ∧ k ≠ 6 ∧ k ≠ 7) := by omega
  rcases hk with rfl | rfl | rfl | rfl | rfl | ⟨n1, n2, n5, n6, n7⟩
  · have e := (and_fin ⟨c, hc⟩ ⟨m, hm (.inl rfl)⟩).1
    simp only at e
    go_enter Tryz.func56, Tryz.ntmps56
    go_wp2
    go_ret
    exact ⟨by rw [show lefC c ⟨1, m, n, t⟩ = c &&& (63 ^^^ m) from rfl, ← e]; rfl, L.out⟩
  · have e := (and_fin ⟨c, hc⟩ ⟨m, hm (.inr rfl)⟩).2.1
    simp only at e
    go_enter Tryz.func56, Tryz.ntmps56
    go_wp2
    go_ret
    exact ⟨by rw [show lefC c ⟨2, m, n, t⟩ = c &&& m from rfl, ← e]; rfl, L.out⟩
  · have e := (or_fin ⟨c, hc⟩).1
    simp only at e
    go_enter Tryz.func56, Tryz.ntmps56
    go_wp2
    go_ret
    exact ⟨by rw [show lefC c ⟨5, m, n, t⟩ = c ||| 4 from rfl, ← e]; rfl, L.out⟩
  · have e := (or_fin ⟨c, hc⟩).2.1
    simp only at e
    go_enter Tryz.func56, Tryz.ntmps56
    go_wp2
    go_ret
    exact ⟨by rw [show lefC c ⟨6, m, n, t⟩ = c ||| 16 from rfl, ← e]; rfl, L.out⟩
  · go_enter Tryz.func56, Tryz.ntmps56
    go_wp2
    go_ret
    exact ⟨rfl, L.out⟩
  · have e : lefC c ⟨k, m, n, t⟩ = c := by simp [lefC, n1, n2, n5, n6, n7]
    have k1 : ((k : Int) == 1) = false := beq_eq_false_iff_ne.2 (by omega)
    have k2 : ((k : Int) == 2) = false := beq_eq_false_iff_ne.2 (by omega)
    have k5 : ((k : Int) == 5) = false := beq_eq_false_iff_ne.2 (by omega)
    have k6 : ((k : Int) == 6) = false := beq_eq_false_iff_ne.2 (by omega)
    have k7 : ((k : Int) == 7) = false := beq_eq_false_iff_ne.2 (by omega)
    rw [e]
    clear n1 n2 n5 n6 n7 e
    go_enter Tryz.func56, Tryz.ntmps56
    go_wp2
    go_ret
    exact ⟨rfl, L.out⟩

/-- What Says answers. -/
def saE (c : Nat) (l : List Wr) : Int := if c < 64 then ckE l else 2
def saC (c : Nat) (l : List Wr) : Nat := if saE c l = 0 then sayC c l else 0
theorem all_of {l : List Wr} (h : ckE l = 0) : ∀ x ∈ l, okW x = true := by
  unfold ckE at h
  split at h
  · omega
  split at h
  · exact List.all_eq_true.1 (by assumption)
  · omega

set_option maxHeartbeats 1000000 in
theorem says_any (c : Nat) (l : List Wr) (v : Value) (w : World) (hc : c < 65536) (hT : Tab w) (hv : Wraps w v l) (hs : ∀ x ∈ l, x.wf) :
    Calls Tryz.prog 25 #[.int .u16 (c : Nat), v] w fun e w' => e = .returned (.tuple #[.int .u16 (saC c l : Nat), .int .i64 (saE c l)]) ∧ Below w.heap.size w w' := by
  have hb2 := bey2 c hc
  by_cases h6 : c < 64
  case neg =>
    have e1 : saE c l = 2 := if_neg h6
    have e2 : saC c l = 0 := by unfold saC; rw [e1]; rfl
    rw [e1, e2]
    rw [decide_eq_false h6] at hb2
    have hb3 : (bits .andNot .u16 (c : Int) 63 != 0) = true := by rw [bne, hb2]; rfl
    clear hb2 e1 e2 h6 hs hT
    go_enter Tryz.func25, Tryz.ntmps25
    go_wp2
    exact bodyPost_ret (v := .tuple #[.int .u16 0, .int .i64 2]) (by simp [results, Tryz.results25, go_sem]) rfl ⟨rfl, Below.refl _ _⟩
  rw [decide_eq_true h6] at hb2
  have hb3 : (bits .andNot .u16 (c : Int) 63 != 0) = false := by rw [bne, hb2]; rfl
  have hC : Hid (Calls Tryz.prog 52 #[v] w fun e w' => e = .returned (.int .i64 (ckE l)) ∧ Below w.heap.size w w') := checkAll_any l v w hT hv hs
  have e1 : saE c l = ckE l := if_pos h6
  by_cases hz : ckE l = 0
  case neg =>
    have e2 : saC c l = 0 := by unfold saC; rw [e1, if_neg hz]
    rw [e1, e2]
    have hz1 : (ckE l != 0) = true := by simpa using hz
    generalize ckE l = E at *
    clear hb2 e1 e2 h6 hs hT hz hv
    go_enter Tryz.func25, Tryz.ntmps25
    go_wp2_with fail
    refine hC.out.mono ?_
    rintro e w1 ⟨rfl, hb⟩
    go_wp2
    exact bodyPost_ret (v := .tuple #[.int .u16 0, .int .i64 E]) (by simp [results, Tryz.results25, go_sem]) rfl ⟨rfl, hb⟩
  have e2 : saC c l = sayC c l := by unfold saC; rw [e1, if_pos hz]
  rw [e1, e2, hz]
  have HA : Hid (∀ x ∈ l, okW x = true) := all_of hz
  rw [hz] at hC
  have HS : Hid (∀ k, sayC c (l.take k) < 64) := fun k => say_lt _ c h6 fun x hx => HA.out x (List.mem_of_mem_take hx)
  obtain ⟨oa, cap, rfl, hc', hg⟩ := hv
  have HG : Hid (0 < l.length → ∃ g o, oa = some ⟨g, o, none⟩ ∧ g < w.heap.size ∧ ∀ i (h : i < l.length), WrAt w g (o + i * 4) l[i]) := hg
  have hln : l.length ≤ 16 := by
    unfold ckE at hz
    split at hz
    · omega
    · omega
  clear hb2 e1 e2 h6 hs hT hz hg
  go_enter Tryz.func25, Tryz.ntmps25
  go_wp2_with fail
  refine hC.out.mono ?_
  rintro e w1 ⟨rfl, hb⟩
  have HB : Hid (Below w.heap.size w w1) := hb
  clear hb
  go_wp2_with fail
  go_loopw [0, 19] (fun cv i wr => ∃ k : Nat, k ≤ l.length ∧ i = .int .i64 k ∧ cv = .int .u16 (sayC c (l.take k) : Nat) ∧ Below w.heap.size w wr) (fun _ i _ => l.length - (intOf i).toNat)
  case atStart => exact ⟨0, Nat.zero_le _, rfl, rfl, HB.out⟩
  case round =>
    obtain ⟨k, hk, rfl, rfl, L⟩ := hrel
    by_cases hlt : k < l.length
    · obtain ⟨g, o, rfl, hg, hat⟩ := HG.out (by omega)
      have hx := (hat k hlt).kept (w' := wr) fun j => L.cell (p := ⟨g, j, none⟩) hg
      have e1 : l.take (k + 1) = l.take k ++ [l[k]] := (List.take_append_getElem hlt).symm
      have e2 : sayC c (l.take (k + 1)) = lefC (sayC c (l.take k)) l[k] := by rw [e1, say_snoc]
      have HR : Hid (∀ w, Calls Tryz.prog 56 #[.int .u16 (sayC c (l.take k) : Nat), (Value.agg #[.int .u8 (l[k].kind : Nat), .int .u16 (l[k].mask : Nat), .int .i64 l[k].num, .string l[k].text])] w fun e w' => e = .returned (.int .u16 (lefC (sayC c (l.take k)) l[k] : Nat)) ∧ Below w.heap.size w w') := fun w =>
        left_any _ _ w (HS.out k) (ok_mask (HA.out _ (List.getElem_mem hlt)))
      have L' : Below w.heap.size w (wr.alloc (.cells (#[.int .u8 (l[k].kind : Nat), .int .u16 (l[k].mask : Nat), .int .i64 l[k].num, .string l[k].text]) 58)) := L.alloc L.size _
      have HL : Hid (sayC c (l.take (k + 1)) = lefC (sayC c (l.take k)) l[k] ∧ Below w.heap.size w (wr.alloc (.cells (#[.int .u8 (l[k].kind : Nat), .int .u16 (l[k].mask : Nat), .int .i64 l[k].num, .string l[k].text]) 58))) := ⟨e2, L'⟩
      clear e1 e2 L L' hat
      generalize lefC (sayC c (l.take k)) l[k] = r at *
      generalize sayC c (l.take k) = q at *
      generalize l[k] = x at *
      obtain ⟨x0, x1, x2, x3⟩ := hx
      go_wp2_with fail
      refine (HR.out _).mono ?_
      rintro e w2 ⟨rfl, hb⟩
      have H1 : Hid (Below w.heap.size w w2) := HL.out.2.trans (hb.mono HL.out.2.size)
      clear hb
      go_wp2
      go_roundw
      case rel => exact ⟨k + 1, by omega, by go_num, by rw [HL.out.1], H1.out⟩
      case measure => simp [intOf]; omega
    · obtain rfl : k = l.length := by omega
      rw [List.take_length]
      have HL : Hid (Below w.heap.size w wr) := L
      clear L
      go_wp2
      exact bodyPost_ret (v := .tuple #[.int .u16 (sayC c l : Nat), .int .i64 0]) (by simp [results, Tryz.results25, go_sem]) rfl ⟨rfl, HL.out⟩

end Go.Proofs.YtbnbfgkcndomaabGreatDoor
