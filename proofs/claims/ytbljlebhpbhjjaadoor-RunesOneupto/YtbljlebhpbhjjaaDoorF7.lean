/-
  Contract of the document's answer for layer 3: a clean text; the walk of the statement RunesOne.
-/
import Derived.Test.YtbljlebhpbhjjaaDoorF6
namespace Go.Proofs.YtbljlebhpbhjjaaDoor
open Go.RowKit Go.Shelf

theorem app_list (a b : ByteArray) : (a ++ b).data.toList = a.data.toList ++ b.data.toList := by simp
theorem app_size (a b : ByteArray) : (a ++ b).size = a.size + b.size := by simp
theorem enc_bad : Lib.encodeRune ((65533 : Nat) : Int) = [239, 191, 189] := by decide
theorem keep_bad : keepR 65533 = true := by decide

set_option maxHeartbeats 2000000 in
theorem rclean_any (s : ByteArray) (w : World) (hs : s.size ≤ 1048576) :
    Calls Tryd.prog 17 #[.string s] w fun e w' => e = .returned (.string (cleanA s)) ∧ w' = w := by
  obtain ⟨C, hC⟩ : ∃ C, C = cleanF s (s.size + 1) 0 := ⟨_, rfl⟩
  have HCA : Hid (cleanA s = ⟨C.toArray⟩ ∧ C = cleanF s (s.size + 1) 0) := ⟨by rw [hC]; rfl, hC⟩
  clear hC
  go_enter Tryd.func17, Tryd.ntmps17
  go_wp2
  go_loopw [3, 4] (fun o a wr => ∃ (q f : Nat) (b : ByteArray), a = .int .i64 q ∧ o = .string b ∧ q ≤ s.size ∧ s.size < f + q ∧ b.size ≤ 3 * q ∧ C = b.data.toList ++ cleanF s f q ∧ wr = w) (fun _ a _ => s.size - (intOf a).toNat)
  case atStart => exact ⟨0, s.size + 1, ⟨#[]⟩, rfl, rfl, Nat.zero_le _, by omega, Nat.le_refl _, HCA.out.2, rfl⟩
  case round =>
    obtain ⟨q, f, b, rfl, rfl, hq, hf, hbz, heq, rfl⟩ := hrel
    obtain ⟨f', rfl⟩ : ∃ f', f = f' + 1 := ⟨f - 1, by omega⟩
    by_cases hlt : q < s.size
    · have H1 : Hid (∀ w, Calls Tryd.prog 41 #[.string (s.extract q s.size)] w fun e w' => e = .returned (.tuple #[.int .i32 (rn s q : Nat), .int .i64 (sz s q : Nat), .bool (decide (rn s q = 65533 ∧ sz s q = 1))]) ∧ w' = w) := fun w => one_at s q w hlt
      have hz1 := sz_pos s q
      have hz2 := sz_le s q hlt
      have HV : Hid (¬ (rn s q = 65533 ∧ sz s q = 1) → Lib.encodeRune (rn s q : Nat) = (s.extract q (q + sz s q)).data.toList) := enc_at s q hlt
      rw [cleanF, if_pos hlt] at heq
      have HE : Hid (C = b.data.toList ++ ((if keepR (rn s q) = true then Lib.encodeRune (rn s q : Nat) else []) ++ cleanF s f' (q + sz s q))) := heq
      have hxs : (s.extract q (q + sz s q)).size = sz s q := by simp [ByteArray.size_extract]; omega
      clear heq
      generalize rn s q = r at *
      generalize sz s q = z at *
      cases hbad : decide (r = 65533 ∧ z = 1)
      · have hnb := of_decide_eq_false hbad
        have hE := HV.out hnb
        cases hk : keepR r
        · have HX : Hid (C = b.data.toList ++ cleanF s f' (q + z)) := by unfold Hid; rw [HE.out, hk]; simp
          have hk2 : ctl r = true ∧ ((r : Int) == 10) = false := by
            unfold keepR at hk
            simp only [Bool.or_eq_false_iff, Bool.not_eq_false', decide_eq_false_iff_not] at hk
            exact ⟨hk.2, by rw [beq_eq_false_iff_ne]; omega⟩
          obtain ⟨k1, k2⟩ := hk2
          clear hk hE hnb HV HE
          go_wp2_with (first
            | (go_at_call 41; refine (H1.out _).mono ?_; rintro e w' ⟨rfl, rfl⟩)
            | (go_at_call 37; refine (rcontrol_any _ _).mono ?_; rintro e w' ⟨rfl, rfl⟩))
          go_roundw
          case rel => exact ⟨q + z, f', b, by first | rfl | go_num, rfl, by omega, by omega, by omega, HX.out, by first | rfl | trivial⟩
          case measure => simp [intOf]; omega
        · have HX : Hid (C = (b ++ s.extract q (q + z)).data.toList ++ cleanF s f' (q + z)) := by unfold Hid; rw [HE.out, hk, if_pos rfl, hE, app_list, List.append_assoc]
          have hzz : Hid ((b ++ s.extract q (q + z)).size ≤ 3 * (q + z)) := by unfold Hid; rw [app_size, hxs]; omega
          have hk2 : ctl r = false ∨ (ctl r = true ∧ ((r : Int) == 10) = true) := by
            unfold keepR at hk
            cases hc : ctl r
            · exact .inl rfl
            · refine .inr ⟨rfl, ?_⟩
              simp only [hc, Bool.not_true, Bool.or_false, decide_eq_true_eq] at hk
              rw [beq_iff_eq]; omega
          clear hk hE hnb HV HE
          rcases hk2 with k1 | ⟨k1, k2⟩
          all_goals
            go_wp2_with (first
              | (go_at_call 41; refine (H1.out _).mono ?_; rintro e w' ⟨rfl, rfl⟩)
              | (go_at_call 37; refine (rcontrol_any _ _).mono ?_; rintro e w' ⟨rfl, rfl⟩))
            go_roundw
            case rel => exact ⟨q + z, f', b ++ s.extract q (q + z), by first | rfl | go_num, rfl, by omega, by omega, hzz.out, HX.out, by first | rfl | trivial⟩
            case measure => simp [intOf]; omega
      · obtain ⟨rfl, rfl⟩ := of_decide_eq_true hbad
        have HX : Hid (C = (b ++ ⟨#[239, 191, 189]⟩).data.toList ++ cleanF s f' (q + 1)) := by
          unfold Hid; rw [HE.out, if_pos keep_bad, enc_bad, app_list, List.append_assoc]
        have hzz : Hid ((b ++ ⟨#[239, 191, 189]⟩).size ≤ 3 * (q + 1)) := by
          unfold Hid; rw [app_size]; show b.size + 3 ≤ _; omega
        clear HV HE hbad
        go_wp2_with (go_at_call 41; refine (H1.out _).mono ?_; rintro e w' ⟨rfl, rfl⟩)
        go_roundw
        case rel => exact ⟨q + 1, f', b ++ ⟨#[239, 191, 189]⟩, by first | rfl | go_num, rfl, by omega, by omega, hzz.out, HX.out, by first | rfl | trivial⟩
        case measure => simp [intOf]; omega
    · have HX : Hid (cleanA s = b) := by
        unfold Hid
        rw [HCA.out.1, heq, cleanF, if_neg hlt, List.append_nil]
      go_wp2
      go_ret
      exact ⟨by rw [HX.out]; rfl, rfl⟩

set_option maxHeartbeats 2000000 in
theorem one_walk (r : Int) (s : ByteArray) (w : World) (A : All w) (hs : s.size ≤ 1048576) :
    Calls Tryd.prog 3 #[.int .i32 r, .string s] w fun e w' => e = .returned (.bool true) ∧ Below w.heap.size w w' := by
  have hsh : Short s := by unfold Short; omega
  have C1 : Hid (∀ w, All w → Calls Tryd.prog 10 #[.string s] w fun e w' => e = .returned (.tuple #[.int .i64 (sumC (pcs s)), .int .i64 (pcs s).length]) ∧ Below w.heap.size w w') := fun w h => cells_any s w h.1 hsh
  have C2 : Hid (∀ w, Calls Tryd.prog 11 #[.string s] w fun e w' => e = .returned (.tuple #[.int .i64 (sumC (pcs s)), .int .i64 (pcs s).length]) ∧ Below w.heap.size w w') := fun w => rcells_any s w hs
  have D1 : Hid (∀ w, All w → Calls Tryd.prog 12 #[.int .i32 r] w fun e w' => e = .returned (.int .i64 (width r)) ∧ Below w.heap.size w w') := fun w h => width_any r w h.1
  have D2 : Hid (∀ w, Calls Tryd.prog 13 #[.int .i32 r] w fun e w' => e = .returned (.int .i64 (width r)) ∧ Below w.heap.size w w') := fun w => rwidth_any r w
  have A1 : Hid (∀ w, All w → Calls Tryd.prog 14 #[.string s] w fun e w' => e = .returned (.int .i64 (atA s)) ∧ Below w.heap.size w w') := fun w h => at_any s w h.2.2.2
  have A2 : Hid (∀ w, Calls Tryd.prog 15 #[.string s] w fun e w' => e = .returned (.int .i64 (atA s)) ∧ w' = w) := fun w => rat_any s w hs
  have E1 : Hid (∀ w, Calls Tryd.prog 16 #[.string s] w fun e w' => e = .returned (.string (cleanA s)) ∧ Below w.heap.size w w') := fun w => clean_any s w (by omega)
  have E2 : Hid (∀ w, Calls Tryd.prog 17 #[.string s] w fun e w' => e = .returned (.string (cleanA s)) ∧ w' = w) := fun w => rclean_any s w hs
  generalize sumC (pcs s) = n1 at *
  generalize (pcs s).length = n2 at *
  generalize width r = n3 at *
  generalize atA s = n4 at *
  generalize cleanA s = n5 at *
  have H0 : Hid (All w ∧ Below w.heap.size w w) := ⟨A, Below.refl _ _⟩
  clear A
  go_enter Tryd.func3, Tryd.ntmps3
  go_wp2_with fail
  refine (awake_any _ H0.out.1).mono ?_
  rintro e w1 ⟨rfl, hb⟩
  have H1 : Hid (All w1 ∧ Below w.heap.size w w1) := chain_all H0.out hb
  clear hb
  go_wp2_with fail
  refine (C1.out _ H1.out.1).mono ?_
  rintro e w2 ⟨rfl, hb⟩
  have H2 : Hid (All w2 ∧ Below w.heap.size w w2) := chain_all H1.out hb
  clear hb
  go_wp2_with fail
  refine (C2.out _).mono ?_
  rintro e w3 ⟨rfl, hb⟩
  have H3 : Hid (All w3 ∧ Below w.heap.size w w3) := chain_all H2.out hb
  clear hb
  go_wp2_with fail
  refine (D1.out _ H3.out.1).mono ?_
  rintro e w4 ⟨rfl, hb⟩
  have H4 : Hid (All w4 ∧ Below w.heap.size w w4) := chain_all H3.out hb
  clear hb
  go_wp2_with fail
  refine (D2.out _).mono ?_
  rintro e w5 ⟨rfl, hb⟩
  have H5 : Hid (All w5 ∧ Below w.heap.size w w5) := chain_all H4.out hb
  clear hb
  go_wp2_with fail
  refine (A1.out _ H5.out.1).mono ?_
  rintro e w6 ⟨rfl, hb⟩
  have H6 : Hid (All w6 ∧ Below w.heap.size w w6) := chain_all H5.out hb
  clear hb
  go_wp2_with (go_at_call 15; refine (A2.out _).mono ?_; rintro e w' ⟨rfl, rfl⟩)
  refine (E1.out _).mono ?_
  rintro e w7 ⟨rfl, hb⟩
  have H7 : Hid (Below w.heap.size w w7) := (chain_all H6.out hb).2
  clear hb
  go_wp2_with (go_at_call 17; refine (E2.out _).mono ?_; rintro e w' ⟨rfl, rfl⟩)
  go_ret
  exact ⟨rfl, H7.out⟩

end Go.Proofs.YtbljlebhpbhjjaaDoor
