/-
  Contracts of the document's answer for layer 3: cells, the first broken byte, a clean text; the walk of the statement RunesOne.
-/
import Derived.Test.YtlooemhaoikidaaDoorF4
import Derived.Lib.MapLaws
namespace Go.Proofs.YtlooemhaoikidaaDoor
open Go.RowKit Go.Shelf

theorem sum_take (l : List Pc) (k : Nat) (h : k < l.length) : sumC (l.take (k + 1)) = sumC (l.take k) + width l[k].r := by
  rw [List.take_succ_eq_append_getElem h, sumC_snoc]
theorem sum_bd : ∀ (l : List Pc), 0 ≤ sumC l ∧ sumC l ≤ 2 * l.length
  | [] => by simp [sumC]
  | x :: t => by
    have h := sum_bd t
    have hx := width_range x.r
    have e : sumC (x :: t) = width x.r + sumC t := rfl
    rw [e, List.length_cons]
    omega

set_option maxHeartbeats 1000000 in
theorem rcells_any (s : ByteArray) (w : World) (hs : s.size ≤ 1048576) :
    Calls Tryd.prog 11 #[.string s] w fun e w' => e = .returned (.tuple #[.int .i64 (sumC (pcs s)), .int .i64 (pcs s).length]) ∧ Below w.heap.size w w' := by
  have HP : Hid (∀ w, Calls Tryd.prog 33 #[.string s] w fun e w' => ∃ v, e = .returned v ∧ w'.ownsRow w.heap.size 51 4 v (pcs s).length (flatP (pcs s)) ∧ Below w.heap.size w w') := fun w => rpieces_any s w hs
  have hlen := pcs_len s
  generalize pcs s = l at *
  go_enter Tryd.func11, Tryd.ntmps11
  go_wp2_with fail
  refine (HP.out _).mono ?_
  rintro e w1 ⟨v, rfl, hown, hb⟩
  obtain ⟨ao, cap, rfl, hcap, hR⟩ := row_at hown
  have HR : Hid (RowAt w1 ao l ∧ Below w.heap.size w w1) := ⟨hR, hb⟩
  clear hown hR hb
  go_wp2
  go_loopw [5, 6] (fun n i wr => ∃ k : Nat, k ≤ l.length ∧ i = .int .i64 k ∧ n = .int .i64 (sumC (l.take k)) ∧ wr = w1) (fun _ i _ => l.length - (intOf i).toNat)
  case atStart => exact ⟨0, Nat.zero_le _, rfl, by simp [sumC], rfl⟩
  case round =>
    obtain ⟨k, hk, rfl, rfl, rfl⟩ := hrel
    by_cases hlt : k < l.length
    · obtain ⟨g, hao, c0, c1, c2, c3⟩ := HR.out.1 k hlt
      subst hao
      have HE : Hid (sumC (l.take (k + 1)) = sumC (l.take k) + width l[k].r) := sum_take l k hlt
      have hb1 := sum_bd (l.take k)
      have hb2 := width_range l[k].r
      rw [List.length_take] at hb1
      clear c0 c1 c2
      generalize sumC (l.take k) = m at *
      generalize width l[k].r = d at *
      go_wp2
      go_roundw
      case rel => exact ⟨k + 1, by omega, by go_num, by rw [HE.out], by first | rfl | trivial⟩
      case measure => simp [intOf]; omega
    · obtain rfl : k = l.length := by omega
      go_wp2
      go_ret2
      exact ⟨by rw [List.take_length]; rfl, HR.out.2⟩

theorem oB_tail (s : ByteArray) (q : Nat) : oB (s.extract q s.size) = decide (rn s q = 65533 ∧ sz s q = 1) := by unfold oB; rw [Lib.tail_decode]; rfl
theorem one_at (s : ByteArray) (q : Nat) (w : World) (h : q < s.size) :
    Calls Tryd.prog 41 #[.string (s.extract q s.size)] w fun e w' => e = .returned (.tuple #[.int .i32 (rn s q : Nat), .int .i64 (sz s q : Nat), .bool (decide (rn s q = 65533 ∧ sz s q = 1))]) ∧ w' = w := by
  have h1 := one_any (s.extract q s.size) w (by rw [tail_size]; omega)
  rw [oR_tail, oZ_tail, oB_tail] at h1
  exact h1

set_option maxHeartbeats 1000000 in
theorem rat_any (s : ByteArray) (w : World) (hs : s.size ≤ 1048576) :
    Calls Tryd.prog 15 #[.string s] w fun e w' => e = .returned (.int .i64 (atA s)) ∧ w' = w := by
  go_enter Tryd.func15, Tryd.ntmps15
  go_wp2
  go_loopw [3] (fun a wr => ∃ q f : Nat, a = .int .i64 q ∧ q ≤ s.size ∧ s.size < f + q ∧ atA s = atF s f q ∧ wr = w) (fun a _ => s.size - (intOf a).toNat)
  case atStart => exact ⟨0, s.size + 1, rfl, Nat.zero_le _, by omega, rfl, rfl⟩
  case round =>
    obtain ⟨q, f, rfl, hq, hf, heq, rfl⟩ := hrel
    obtain ⟨f', rfl⟩ : ∃ f', f = f' + 1 := ⟨f - 1, by omega⟩
    by_cases hlt : q < s.size
    · have H1 : Hid (∀ w, Calls Tryd.prog 41 #[.string (s.extract q s.size)] w fun e w' => e = .returned (.tuple #[.int .i32 (rn s q : Nat), .int .i64 (sz s q : Nat), .bool (decide (rn s q = 65533 ∧ sz s q = 1))]) ∧ w' = w) := fun w => one_at s q w hlt
      have hz1 := sz_pos s q
      have hz2 := sz_le s q hlt
      rw [atF, if_pos hlt] at heq
      have HE : Hid (atA s = if rn s q = 65533 ∧ sz s q = 1 then (q : Int) else atF s f' (q + sz s q)) := heq
      clear heq
      generalize rn s q = r at *
      generalize sz s q = z at *
      cases hbad : decide (r = 65533 ∧ z = 1)
      · have HX : Hid (atA s = atF s f' (q + z)) := by unfold Hid; rw [HE.out, if_neg (of_decide_eq_false hbad)]
        go_wp2_with (go_at_call 41; refine (H1.out _).mono ?_; rintro e w' ⟨rfl, rfl⟩)
        go_roundw
        case rel => exact ⟨q + z, f', by first | rfl | go_num, by omega, by omega, HX.out, by first | rfl | trivial⟩
        case measure => simp [intOf]; omega
      · have HX : Hid (atA s = (q : Int)) := by unfold Hid; rw [HE.out, if_pos (of_decide_eq_true hbad)]
        go_wp2_with (go_at_call 41; refine (H1.out _).mono ?_; rintro e w' ⟨rfl, rfl⟩)
        go_ret
        exact ⟨by rw [HX.out]; rfl, rfl⟩
    · have HX : Hid (atA s = -1) := by unfold Hid; rw [heq, atF, if_neg hlt]
      go_wp2
      go_ret
      exact ⟨by rw [HX.out]; rfl, rfl⟩

theorem back_arr (x : ByteArray) : (⟨x.data.toList.toArray⟩ : ByteArray) = x := by cases x; simp
theorem enc_at (s : ByteArray) (q : Nat) (h : q < s.size) (hv : ¬ (rn s q = 65533 ∧ sz s q = 1)) : Lib.encodeRune (rn s q : Nat) = (s.extract q (q + sz s q)).data.toList := by
  have e := back_arr (s.extract q s.size)
  have hd : Lib.decodeL (s.extract q s.size).data.toList = (rn s q, sz s q) := by
    unfold Lib.decodeL
    rw [e, Lib.tail_decode]
    rfl
  have hne : (s.extract q s.size).data.toList ≠ [] := fun hn => by
    have h1 : (s.extract q s.size).data.toList.length = 0 := by rw [hn]; rfl
    have h2 : (s.extract q s.size).size = 0 := by rw [← h1]; exact Array.length_toList.symm
    rw [tail_size] at h2
    omega
  have k := Lib.encode_decode (s.extract q s.size).data.toList hne (by rw [hd]; exact hv)
  rw [hd] at k
  rw [k]
  have hz := sz_le s q h
  have hS : s.size = s.data.size := rfl
  simp only [ByteArray.data_extract, Array.toList_extract, List.extract_eq_take_drop]
  rw [List.take_take]
  congr 1
  omega

end Go.Proofs.YtlooemhaoikidaaDoor
