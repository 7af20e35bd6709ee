/-
  Clean texts: package runes' ways, as lists.
-/
import Derived.Test.YtlooemhaoikidaaDoorFC
namespace Go.Proofs.YtlooemhaoikidaaDoor
open Go.Lib (decodeL decodeN encodeRune)

theorem dq (s : ByteArray) (q : Nat) : Utf8.decode s q = decodeL (s.data.toList.drop q) := by
  rw [Lib.decode_N, Lib.decodeL_N, List.length_drop]
  simp [List.getD_eq_getElem?_getD, List.getElem?_drop]
theorem rn_L (s : ByteArray) (q : Nat) : rn s q = (decodeL (s.data.toList.drop q)).1 := by rw [rn, dq]
theorem sz_L (s : ByteArray) (q : Nat) : sz s q = (decodeL (s.data.toList.drop q)).2 := by rw [sz, dq]
theorem size_L (s : ByteArray) : s.data.toList.length = s.size := Array.length_toList
theorem drop_ne (s : ByteArray) (q : Nat) : (s.data.toList.drop q = []) = ¬ (q < s.size) := by
  rw [List.drop_eq_nil_iff, size_L]
  exact propext (by omega)
theorem drop_sz (s : ByteArray) (q : Nat) : (s.data.toList.drop q).drop (sz s q) = s.data.toList.drop (q + sz s q) := by rw [List.drop_drop]

theorem clean_L (s : ByteArray) : ∀ f q, cleanF s f q = clG f (s.data.toList.drop q)
  | 0, _ => rfl
  | f + 1, q => by
    unfold cleanF clG
    by_cases h : q < s.size
    · have e : ¬ (s.data.toList.drop q = []) := by rw [drop_ne]; simpa using h
      rw [if_pos h, if_neg e, ← rn_L, ← sz_L, drop_sz, clean_L s f]
    · have e : s.data.toList.drop q = [] := by rw [drop_ne]; exact h
      rw [if_neg h, if_pos e]
theorem at_L (s : ByteArray) : ∀ f q, s.size < f + q → (bdG f (s.data.toList.drop q) = false → atF s f q = -1) ∧ (bdG f (s.data.toList.drop q) = true → 0 ≤ atF s f q)
  | 0, q, h => by
    refine ⟨fun _ => rfl, fun h => ?_⟩
    unfold bdG at h
    exact absurd h (by decide)
  | f + 1, q, h => by
    have hz := sz_pos s q
    unfold atF bdG
    by_cases hq : q < s.size
    · rw [if_pos hq, if_neg (by rw [drop_ne]; simpa using hq), ← rn_L, ← sz_L, drop_sz]
      by_cases hb : rn s q = 65533 ∧ sz s q = 1
      · rw [if_pos hb, decide_eq_true hb]
        exact ⟨fun h => absurd h (by simp), fun _ => by omega⟩
      · rw [if_neg hb, decide_eq_false hb, Bool.false_or]
        exact at_L s f _ (by omega)
    · rw [if_neg hq, if_pos (by rw [drop_ne]; exact hq)]
      exact ⟨fun _ => rfl, fun h => absurd h (by decide)⟩
theorem mrk_width {r : Nat} (h : mrk r = true) : width r = 0 := by
  unfold width
  rw [h, Bool.or_true]
  rfl
theorem sum_cons (x : Pc) (t : List Pc) : sumC (x :: t) = width x.r + sumC t := rfl
theorem wd_fuel (s : ByteArray) (f q : Nat) (h : s.size < f + q) (hq : q < s.size) : wdG f (s.data.toList.drop q) = width (rn s q) + wdG (f - 1) (s.data.toList.drop (q + sz s q)) := by
  obtain ⟨f', rfl⟩ : ∃ f', f = f' + 1 := ⟨f - 1, by omega⟩
  rw [wdG, if_neg (by rw [drop_ne]; simpa using hq), ← rn_L, ← sz_L, drop_sz]
  rfl
theorem wd_end (s : ByteArray) (f : Nat) : wdG f (s.data.toList.drop s.size) = 0 := by
  cases f with
  | zero => rfl
  | succ f => rw [wdG, if_pos (by rw [drop_ne]; omega)]
theorem grow_sum (s : ByteArray) : ∀ (n q f a r : Nat), q ≤ s.size → s.size - q ≤ n → s.size < f + q → sumC (grow s (s.size + 1) a r q) = width r + wdG f (s.data.toList.drop q)
  | n, q, f, a, r, hq, hn, hf => by
    by_cases h : q < s.size
    · have hz := sz_pos s q
      have hl := sz_le s q h
      obtain ⟨n', rfl⟩ : ∃ n', n = n' + 1 := ⟨n - 1, by omega⟩
      rw [wd_fuel s f q hf h]
      cases hm : (mrk (rn s q) && !ctl r)
      · rw [T_stop s a r q (.inl ⟨h, hm⟩), sum_cons, T, if_pos h, grow_sum s n' (q + sz s q) (f - 1) q (rn s q) hl (by omega) (by omega)]
      · rw [T_go s a r q h hm, grow_sum s n' (q + sz s q) (f - 1) a r hl (by omega) (by omega)]
        rw [Bool.and_eq_true] at hm
        rw [mrk_width hm.1, Int.zero_add]
    · obtain rfl : q = s.size := by omega
      rw [T_stop s a r s.size (.inr rfl), sum_cons, T, if_neg (by omega), wd_end]
      rfl
theorem sum_L (s : ByteArray) (f : Nat) (h : s.size < f) : sumC (pcs s) = wdG f s.data.toList := by
  rw [pcs_T, T]
  by_cases h0 : 0 < s.size
  · have hl := sz_le s 0 h0
    have e := wd_fuel s f 0 (by omega) h0
    have hz := sz_pos s 0
    rw [if_pos h0, grow_sum s s.size (0 + sz s 0) (f - 1) 0 (rn s 0) hl (by omega) (by omega)]
    rw [List.drop_zero] at e
    rw [e]
  · rw [if_neg h0]
    have e := wd_end s f
    rw [show s.size = 0 by omega, List.drop_zero] at e
    rw [e]
    rfl
theorem clG_len : ∀ (f : Nat) (l : List UInt8), (clG f l).length ≤ 4 * l.length
  | 0, _ => by simp [clG]
  | f + 1, l => by
    unfold clG
    by_cases h : l = []
    · rw [if_pos h]; simp
    · rw [if_neg h, List.length_append]
      have hz := Lib.decodeL_width l
      have hp : 0 < l.length := List.length_pos_iff.2 h
      have ih := clG_len f (l.drop (decodeL l).2)
      rw [List.length_drop] at ih
      have he : (encodeRune (((decodeL l).1 : Nat) : Int)).length ≤ 4 := by
        unfold Lib.encodeRune
        rw [List.length_map]
        exact Lib.encodeRuneZ_length_le _
      split
      · omega
      · simp only [List.length_nil]; omega

/-- All that the statement asks. -/
theorem clean_facts (s : ByteArray) : Lib.validD (cleanA s).data.toList = true ∧ cleanA (cleanA s) = cleanA s ∧ sumC (pcs (cleanA s)) = sumC (pcs s) ∧ atA (cleanA s) = -1 ∧ (cleanA s).size ≤ 4 * s.size ∧
    (∀ (i : Nat) (h : i < (cleanA s).size), (32 ≤ ((cleanA s)[i]).toNat ∨ ((cleanA s)[i]).toNat = 10) ∧ ((cleanA s)[i]).toNat ≠ 127) ∧ decide (atA s < 0) = Lib.validD s.data.toList := by
  have e : (cleanA s).data.toList = clG (s.size + 1) s.data.toList := by
    unfold cleanA
    rw [clean_L, List.drop_zero]
  have hl := clG_len (s.size + 1) s.data.toList
  rw [← e, size_L, size_L] at hl
  obtain ⟨h1, h2, h3, h4, h5⟩ := clean_all (s.size + 1) s.data.toList ((cleanA s).size + 1) (by rw [size_L]; omega) (by rw [← e, size_L]; omega)
  rw [← e] at h1 h2 h3 h4 h5
  refine ⟨h1, ?_, ?_, ?_, hl, ?_, ?_⟩
  · rw [show cleanA (cleanA s) = ⟨(cleanF (cleanA s) ((cleanA s).size + 1) 0).toArray⟩ from rfl, clean_L, List.drop_zero, h2]
  · rw [sum_L (cleanA s) ((cleanA s).size + 1) (by omega), h3, sum_L s (s.size + 1) (by omega)]
  · have := (at_L (cleanA s) ((cleanA s).size + 1) 0 (by omega)).1
    rw [List.drop_zero] at this
    exact this h4
  · intro i hi
    refine h5 _ ?_
    have : (cleanA s)[i] = (cleanA s).data[i]'hi := rfl
    rw [this]
    exact Array.mem_toList_iff.2 (Array.getElem_mem _)
  · rw [valid_bd (s.size + 1) s.data.toList (by rw [size_L]; omega)]
    have k := at_L s (s.size + 1) 0 (by omega)
    rw [List.drop_zero] at k
    show decide (atF s (s.size + 1) 0 < 0) = _
    cases hb : bdG (s.size + 1) s.data.toList
    · rw [k.1 hb]; rfl
    · have := k.2 hb
      rw [decide_eq_false (by omega)]; rfl

end Go.Proofs.YtlooemhaoikidaaDoor
