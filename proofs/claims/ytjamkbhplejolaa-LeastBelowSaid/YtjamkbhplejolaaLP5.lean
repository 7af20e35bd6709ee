/-
  What is promised of the loop, in plain words.
-/
import Derived.Test.YtjamkbhplejolaaLP4
namespace Go.Proofs.Ytjamkbhplejolaa

theorem sumI_app (L : List Bn) : ∀ (a b : List Nat), sumI L (a ++ b) = sumI L a + sumI L b
  | [], b => by simp [sumI]
  | i :: t, b => by
    show _ + sumI L (t ++ b) = _
    rw [sumI_app L t b, sumI]
    omega
theorem sumI_rev (L : List Bn) : ∀ (a : List Nat), sumI L a.reverse = sumI L a
  | [] => rfl
  | i :: t => by
    rw [List.reverse_cons, sumI_app, sumI_rev L t, sumI, sumI, sumI]
    omega
theorem sumI_rot (L : List Bn) (a : List Nat) : sumI L (rotN a) = sumI L a := by
  unfold rotN
  rw [sumI_app, Int.add_comm, ← sumI_app, List.take_append_drop]
/-- A loop that can't hold. -/
structure Nice (N : Nat) (L : List Bn) (R : List Nat) : Prop where
  pos : 0 < R.length
  len : R.length ≤ N
  least : ∀ (i k m : Nat), R[i]? = some k → R[0]? = some m → m ≤ k
  here : ∀ (i k : Nat), R[i]? = some k → ∃ b, L[k]? = some b ∧ b.a < N ∧ b.b < N
  next : ∀ (i k m : Nat) (b c : Bn), i < R.length → R[i]? = some k → R[(i + 1) % R.length]? = some m → L[k]? = some b → L[m]? = some c → b.b = c.a
  apart : ∀ (i j k m : Nat) (b c : Bn), R[i]? = some k → R[j]? = some m → L[k]? = some b → L[m]? = some c → b.a = c.a → i = j
  sum : 0 < sumI L R
theorem lop_nice {N v u p : Nat} {L : List Bn} {s : Rs} (hn : Abt N L) (h : Lpf L s N v u p) : Nice N L (rotN (bck L s p u).reverse) := by
  have hl : (bck L s p u).length = p := bck_len p u u h.back
  have hrl : (bck L s p u).reverse.length = p := by rw [List.length_reverse, hl]
  have hp := h.p0
  have hne : (bck L s p u).reverse ≠ [] := by
    intro e
    rw [e] at hrl
    simp at hrl
    omega
  have hmn := mnN_lt hne
  rw [hrl] at hmn
  -- place by place, in the order of the loop
  have at_ : ∀ i, i < p → (rotN (bck L s p u).reverse)[i]? = (bck L s p u)[p - 1 - (mnN (bck L s p u).reverse + i) % p]? := by
    intro i hi
    have hm : (mnN (bck L s p u).reverse + i) % p < p := Nat.mod_lt _ hp
    rw [rotN_at hne (by rw [hrl]; exact hi), hrl, List.getElem?_reverse (by rw [hl]; exact hm), hl]
  have hlen : (rotN (bck L s p u).reverse).length = p := by rw [rotN_len, hrl]
  have lt_ : ∀ {i k : Nat}, (rotN (bck L s p u).reverse)[i]? = some k → i < p := fun {i k} e => by
    have := (List.getElem?_eq_some_iff.1 e).1
    rw [hlen] at this
    exact this
  have info : ∀ {i k : Nat}, (rotN (bck L s p u).reverse)[i]? = some k → ∃ b, L[k]? = some b ∧ stp L s (p - 1 - (mnN (bck L s p u).reverse + i) % p) u = some b.b ∧ stp L s (p - 1 - (mnN (bck L s p u).reverse + i) % p + 1) u = some b.a := by
    intro i k e
    have hi := lt_ e
    rw [at_ i hi] at e
    have hm : (mnN (bck L s p u).reverse + i) % p < p := Nat.mod_lt _ hp
    obtain ⟨k', b, e1, e2, e3, e4⟩ := bck_at h.bb p u u (p - 1 - (mnN (bck L s p u).reverse + i) % p) h.back (by omega)
    rw [e] at e1
    injection e1 with e1
    subst e1
    exact ⟨b, e2, e3, e4⟩
  generalize hf : mnN (bck L s p u).reverse = f at *
  refine ⟨by rw [hlen]; exact hp, by rw [hlen]; exact h.pn, ?_, ?_, ?_, ?_, ?_⟩
  · intro i k m e1 e2
    have hi := lt_ e1
    rw [rotN_at hne (by rw [hrl]; exact hp), hrl, hf, Nat.add_zero, Nat.mod_eq_of_lt hmn] at e2
    have hle := mnN_le (R := (bck L s p u).reverse) (by rw [hrl, hf]; exact hmn)
    rw [List.getElem?_eq_getElem (by rw [hrl]; exact hmn)] at e2
    injection e2 with e2
    have hk : k ∈ (bck L s p u).reverse := by
      have := List.mem_of_getElem? e1
      unfold rotN at this
      rcases List.mem_append.1 this with h | h
      · exact List.mem_of_mem_drop h
      · exact List.mem_of_mem_take h
    have := hle k hk
    simp only [hf] at this
    omega
  · intro i k e
    obtain ⟨b, h1, _, _⟩ := info e
    exact ⟨b, h1, hn b (List.mem_of_getElem? h1)⟩
  · intro i k m b c hi e1 e2 e3 e4
    rw [hlen] at hi e2
    obtain ⟨b', h1, h2, _⟩ := info e1
    obtain ⟨c', g1, _, g3⟩ := info e2
    rw [e3] at h1
    injection h1 with h1
    subst h1
    rw [e4] at g1
    injection g1 with g1
    subst g1
    have hj : (f + (i + 1) % p) % p = ((f + i) % p + 1) % p := by
      rw [Nat.add_mod, Nat.mod_mod, ← Nat.add_mod, ← Nat.add_assoc, Nat.add_mod (f + i) 1 p]
      by_cases hp1 : p = 1
      · subst hp1; simp [Nat.mod_one]
      · rw [Nat.mod_eq_of_lt (show 1 < p by omega)]
    have hm : (f + i) % p < p := Nat.mod_lt _ hp
    by_cases c1 : (f + i) % p + 1 < p
    · rw [hj, Nat.mod_eq_of_lt c1, show p - 1 - ((f + i) % p + 1) + 1 = p - 1 - (f + i) % p by omega, h2] at g3
      injection g3
    · have e5 : (f + i) % p + 1 = p := by omega
      rw [hj, e5, Nat.mod_self, show p - 1 - 0 + 1 = p by omega, h.back] at g3
      rw [show p - 1 - (f + i) % p = 0 by omega] at h2
      simp only [stp, Option.some.injEq] at h2 g3
      omega
  · intro i j k m b c e1 e2 e3 e4 hac
    have hi := lt_ e1
    have hj := lt_ e2
    obtain ⟨b', h1, _, h3⟩ := info e1
    obtain ⟨c', g1, _, g3⟩ := info e2
    rw [e3] at h1
    injection h1 with h1
    subst h1
    rw [e4] at g1
    injection g1 with g1
    subst g1
    rw [hac] at h3
    have m1 : (f + i) % p < p := Nat.mod_lt _ hp
    have m2 : (f + j) % p < p := Nat.mod_lt _ hp
    -- the places in the way back, from 1 to p; p stands where 0 does
    have key : (f + i) % p = (f + j) % p := by
      generalize (f + i) % p = x at *
      generalize (f + j) % p = y at *
      rcases Nat.lt_trichotomy x y with c1 | c1 | c1
      · exfalso
        by_cases c2 : x = 0
        · subst c2
          rw [show p - 1 - 0 + 1 = p by omega, h.back] at h3
          injection h3 with h3
          rw [← h3] at g3
          exact h.first (p - 1 - y + 1) (by omega) (by omega) g3
        · have := stp_uniq h (i := p - 1 - x + 1) (j := p - 1 - y + 1) (by omega) (by omega) h3 g3
          omega
      · exact c1
      · exfalso
        by_cases c2 : y = 0
        · subst c2
          rw [show p - 1 - 0 + 1 = p by omega, h.back] at g3
          injection g3 with g3
          rw [← g3] at h3
          exact h.first (p - 1 - x + 1) (by omega) (by omega) h3
        · have := stp_uniq h (i := p - 1 - x + 1) (j := p - 1 - y + 1) (by omega) (by omega) h3 g3
          omega
    by_cases a1 : f + i < p
    · rw [Nat.mod_eq_of_lt a1] at key
      by_cases a2 : f + j < p
      · rw [Nat.mod_eq_of_lt a2] at key; omega
      · rw [Nat.mod_eq_sub_mod (by omega), Nat.mod_eq_of_lt (by omega)] at key; omega
    · rw [Nat.mod_eq_sub_mod (by omega), Nat.mod_eq_of_lt (by omega)] at key
      by_cases a2 : f + j < p
      · rw [Nat.mod_eq_of_lt a2] at key; omega
      · rw [Nat.mod_eq_sub_mod (by omega), Nat.mod_eq_of_lt (by omega)] at key; omega
  · rw [sumI_rot, sumI_rev, bck_sum p u u h.back]
    exact h.sum

end Go.Proofs.Ytjamkbhplejolaa
