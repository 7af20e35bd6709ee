/-
  Going through a text's pieces, as the document does, against package runes' ways: plain lists.
-/
import Derived.Test.YtlooemhaoikidaaDoorF3
import Derived.Test.YtlooemhaoikidaaDoorRB
import Derived.Test.YtlooemhaoikidaaDoorRD
import Derived.Test.YtlooemhaoikidaaDoorRL4
namespace Go.Proofs.YtlooemhaoikidaaDoor

/-- The end of the piece in which a place lies. -/
def nxR : List Pc → Int → Nat × Bool
  | [], _ => (0, false)
  | x :: t, p => if (x.fr : Int) ≤ p ∧ p < x.to then (x.to, true) else nxR t p
/-- The last beginning ahead of a place. -/
def bkR : List Pc → Int → Nat → Nat
  | [], _, b => b
  | x :: t, p, b => bkR t p (if (x.fr : Int) < p then x.fr else b)
/-- Where a word goes to from a piece on. -/
def wgo : List Pc → Int → Nat → Nat
  | [], _, e => e
  | x :: t, k, e => if kindI x.r = k then wgo t k x.to else e
def wdR : List Pc → Int → Nat × Bool
  | [], _ => (0, false)
  | x :: t, p => if (x.fr : Int) ≤ p ∧ p < x.to then (wgo t (kindI x.r) x.to, true) else wdR t p

theorem nx_next {n : Nat} : ∀ (l : List Pc) (a : Nat) (p : Int), Ch n a l → (a : Int) ≤ p → nxR l p = ((nextL l p).getD 0, (nextL l p).isSome)
  | [], _, _, _, _ => rfl
  | x :: t, a, p, h, hp => by
    obtain ⟨h1, h2, h3, h4⟩ := h
    unfold nxR nextL
    by_cases hx : p < x.to
    · rw [if_pos ⟨by omega, hx⟩, if_pos hx]; rfl
    · rw [if_neg (fun h => hx h.2), if_neg hx]
      exact nx_next t x.to p h4 (by omega)
theorem nx_neg : ∀ (l : List Pc) (p : Int), p < 0 → nxR l p = (0, false)
  | [], _, _ => rfl
  | x :: t, p, h => by
    unfold nxR
    rw [if_neg (fun h' => by have := h'.1; omega)]
    exact nx_neg t p h
theorem next_same (s : ByteArray) (p : Int) : (((nxR (pcs s) p).1 : Nat) : Int) = nextN s p ∧ (nxR (pcs s) p).2 = nextB s p := by
  unfold nextN nextB
  by_cases h : p < 0
  · rw [if_pos h, if_pos h, nx_neg _ _ h]; exact ⟨rfl, rfl⟩
  · rw [if_neg h, if_neg h, nx_next (pcs s) 0 p (pcs_ch s) (by omega)]; exact ⟨rfl, rfl⟩

theorem bk_past {n : Nat} : ∀ (l : List Pc) (a : Nat) (p : Int) (b : Nat), Ch n a l → p ≤ a → bkR l p b = b
  | [], _, _, _, _, _ => rfl
  | x :: t, a, p, b, h, hp => by
    obtain ⟨h1, h2, h3, h4⟩ := h
    unfold bkR
    rw [if_neg (by omega)]
    exact bk_past t x.to p b h4 (by omega)
theorem bk_back {n : Nat} : ∀ (l : List Pc) (a : Nat) (p : Int) (b : Nat), Ch n a l → bkR l p b = backL l p b
  | [], _, _, _, _ => rfl
  | x :: t, a, p, b, h => by
    obtain ⟨h1, h2, h3, h4⟩ := h
    unfold bkR backL
    by_cases hx : p ≤ x.fr
    · rw [if_pos hx, if_neg (by omega)]
      exact bk_past t x.to p b h4 (by omega)
    · rw [if_neg hx, if_pos (by omega)]
      exact bk_back t x.to p x.fr h4

theorem wg_word {n : Nat} : ∀ (l : List Pc) (a : Nat) (p : Int) (k : Int) (e : Nat), Ch n a l → p < a → 0 < e → wordL l p e k = (wgo l k e, true)
  | [], _, _, _, e, _, _, he => by unfold wordL wgo; rw [decide_eq_true he]
  | x :: t, a, p, k, e, h, hp, he => by
    obtain ⟨h1, h2, h3, h4⟩ := h
    unfold wordL wgo
    rw [if_neg (by omega), if_neg (by omega)]
    by_cases hk : kindI x.r = k
    · rw [if_pos hk, if_pos hk]
      exact wg_word t x.to p k x.to h4 (by omega) (by omega)
    · rw [if_neg hk, if_neg hk]
theorem wd_word {n : Nat} : ∀ (l : List Pc) (a : Nat) (p : Int), Ch n a l → (a : Int) ≤ p → wdR l p = wordL l p 0 0
  | [], _, _, _, _ => rfl
  | x :: t, a, p, h, hp => by
    obtain ⟨h1, h2, h3, h4⟩ := h
    unfold wdR wordL
    by_cases hx : (x.to : Int) ≤ p
    · rw [if_neg (fun h => by have := h.2; omega), if_pos hx]
      exact wd_word t x.to p h4 (by omega)
    · rw [if_pos ⟨by omega, by omega⟩, if_neg hx, if_pos rfl]
      exact (wg_word t x.to p (kindI x.r) x.to h4 (by omega) (by omega)).symm
theorem wd_neg : ∀ (l : List Pc) (p : Int), p < 0 → wdR l p = (0, false)
  | [], _, _ => rfl
  | x :: t, p, h => by
    unfold wdR
    rw [if_neg (fun h' => by have := h'.1; omega)]
    exact wd_neg t p h
theorem word_same (s : ByteArray) (p : Int) : wdR (pcs s) p = wordA s p := by
  unfold wordA
  by_cases h : p < 0
  · rw [if_pos h, wd_neg _ _ h]
  · rw [if_neg h, wd_word (pcs s) 0 p (pcs_ch s) (by omega)]

/-- A piece's cells in the row. -/
theorem flatP_at : ∀ (l : List Pc) (i : Nat) (h : i < l.length), (flatP l)[i * 4]? = some (.int .i64 l[i].fr) ∧ (flatP l)[i * 4 + 1]? = some (.int .i64 l[i].to) ∧ (flatP l)[i * 4 + 2]? = some (.int .i32 l[i].r) ∧ (flatP l)[i * 4 + 3]? = some (.int .i64 (width l[i].r))
  | [], i, h => by simp at h
  | x :: t, 0, _ => by simp [flatP]
  | x :: t, i + 1, h => by
    have ih := flatP_at t i (by simpa using h)
    have e : ∀ j, (flatP (x :: t))[(i + 1) * 4 + j]? = (flatP t)[i * 4 + j]? := fun j => by
      show (([.int .i64 x.fr, .int .i64 x.to, .int .i32 x.r, .int .i64 (width x.r)] : List Value) ++ flatP t)[(i + 1) * 4 + j]? = _
      rw [List.getElem?_append_right (by simp; omega)]
      congr 1
      simp
      omega
    have e0 := e 0
    simp only [Nat.add_zero] at e0
    rw [e0, e 1, e 2, e 3]
    exact ih

end Go.Proofs.YtlooemhaoikidaaDoor
