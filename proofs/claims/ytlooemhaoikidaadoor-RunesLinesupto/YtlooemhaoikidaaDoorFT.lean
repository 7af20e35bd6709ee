/-
  Pieces of what is left of a text, cut at a place: the pieces from there on, moved.
-/
import Derived.Test.YtlooemhaoikidaaDoorF3
namespace Go.Proofs.YtlooemhaoikidaaDoor

def movP (m : Nat) (x : Pc) : Pc := ⟨x.fr + m, x.to + m, x.r⟩
theorem rn_tail (s : ByteArray) (m q : Nat) : rn (s.extract m s.size) q = rn s (m + q) := by unfold rn; rw [Lib.tail_decode]
theorem sz_tail (s : ByteArray) (m q : Nat) : sz (s.extract m s.size) q = sz s (m + q) := by unfold sz; rw [Lib.tail_decode]
theorem grow_tail (s : ByteArray) (m : Nat) (hm : m ≤ s.size) : ∀ (f a r q : Nat), (grow (s.extract m s.size) f a r q).map (movP m) = grow s f (m + a) r (m + q)
  | 0, _, _, _ => rfl
  | f + 1, a, r, q => by
    unfold grow
    rw [tail_size, rn_tail, sz_tail]
    by_cases h : q < s.size - m
    · rw [if_pos h, if_pos (show m + q < s.size by omega)]
      cases hc : (mrk (rn s (m + q)) && !ctl r)
      · simp only [Bool.false_eq_true, if_false, List.map_cons]
        rw [grow_tail s m hm f, ← Nat.add_assoc]
        simp only [movP, Nat.add_comm]
      · simp only [if_true]
        rw [grow_tail s m hm f, ← Nat.add_assoc]
    · rw [if_neg h, if_neg (show ¬ m + q < s.size by omega)]
      simp only [List.map_cons, List.map_nil, movP]
      rw [Nat.add_comm a m, Nat.sub_add_cancel hm]
theorem pcs_tail (s : ByteArray) (m : Nat) (hm : m ≤ s.size) : (pcs (s.extract m s.size)).map (movP m) = T s m := by
  unfold pcs T
  rw [tail_size, rn_tail, sz_tail]
  by_cases h : s.size - m = 0
  · rw [if_pos h, if_neg (by omega)]; rfl
  · have hz := sz_pos s m
    rw [if_neg h, if_pos (by omega), grow_tail s m hm, Nat.add_zero]
    exact grow_fuel s _ _ _ _ _ (by omega) (by omega) (by omega) (by omega)
/-- At a piece's end the rest of the pieces is what the pieces from there on are. -/
theorem grow_split (s : ByteArray) : ∀ (n q a r : Nat), s.size - q ≤ n → q ≤ s.size → ∀ (pre rest : List Pc), pre ≠ [] → grow s (s.size + 1) a r q = pre ++ rest → rest = T s (pre.getLast?.elim 0 Pc.to) ∧ pre.getLast?.elim 0 Pc.to ≤ s.size
  | n, q, a, r, hn, hq, pre, rest, hp, he => by
    by_cases hb : q < s.size
    · have hz := sz_pos s q
      have hl := sz_le s q hb
      obtain ⟨n', rfl⟩ : ∃ n', n = n' + 1 := ⟨n - 1, by omega⟩
      cases hm : (mrk (rn s q) && !ctl r)
      · rw [T_stop s a r q (.inl ⟨hb, hm⟩)] at he
        cases pre with
        | nil => exact absurd rfl hp
        | cons x t =>
          rw [List.cons_append] at he
          injection he with e1 e2
          cases t with
          | nil => subst e1; exact ⟨by rw [List.nil_append] at e2; exact e2.symm, hq⟩
          | cons y t =>
            rw [T, if_pos hb] at e2
            have := grow_split s n' (q + sz s q) q (rn s q) (by omega) hl (y :: t) rest (by simp) e2
            rwa [List.getLast?_cons_cons]
      · rw [T_go s a r q hb hm] at he
        exact grow_split s n' (q + sz s q) a r (by omega) hl pre rest hp he
    · obtain rfl : q = s.size := by omega
      rw [T_stop s a r s.size (.inr rfl)] at he
      have e0 : T s s.size = [] := by rw [T, if_neg (by omega)]
      rw [e0] at he
      cases pre with
      | nil => exact absurd rfl hp
      | cons x t =>
        rw [List.cons_append] at he
        injection he with e1 e2
        obtain ⟨rfl, rfl⟩ := List.append_eq_nil_iff.1 e2.symm
        subst e1
        exact ⟨e0.symm, Nat.le_refl _⟩
theorem pcs_split (s : ByteArray) (pre rest : List Pc) (h : pcs s = pre ++ rest) (hp : pre ≠ []) : rest = T s (pre.getLast?.elim 0 Pc.to) ∧ pre.getLast?.elim 0 Pc.to ≤ s.size := by
  rw [pcs_T, T] at h
  by_cases h0 : 0 < s.size
  · rw [if_pos h0] at h
    exact grow_split s s.size (0 + sz s 0) 0 (rn s 0) (by omega) (sz_le s 0 h0) pre rest hp h
  · rw [if_neg h0] at h
    exact absurd (List.append_eq_nil_iff.1 h.symm).1 hp
/-- Cut behind a piece, a text's pieces are the rest of its pieces, moved. -/
theorem pcs_rest (s : ByteArray) (pre rest : List Pc) (x : Pc) (h : pcs s = pre ++ x :: rest) : (pcs (s.extract x.to s.size)).map (movP x.to) = rest ∧ x.to ≤ s.size := by
  have e : pcs s = (pre ++ [x]) ++ rest := by rw [h]; simp
  obtain ⟨h1, h2⟩ := pcs_split s (pre ++ [x]) rest e (by simp)
  rw [List.getLast?_append] at h1 h2
  have h1' : rest = T s x.to := h1
  have h2' : x.to ≤ s.size := h2
  exact ⟨by rw [pcs_tail s x.to h2', h1'], h2'⟩

end Go.Proofs.YtlooemhaoikidaaDoor
