/-
  Contract of the document's answer for layer 3: the lines of a paragraph.
-/
import Derived.Test.YtlooemhaoikidaaDoorFLn
import Derived.Test.YtlooemhaoikidaaDoorFT
namespace Go.Proofs.YtlooemhaoikidaaDoor
open Go.RowKit Go.Shelf

theorem lnR_bd (cells : Int) (N : Nat) : ∀ (l : List Pc) (n : Int) (b e : Nat), 0 < e → e ≤ N → b ≤ N → Ch N e l → 0 < lnR cells N l n b ∧ lnR cells N l n b ≤ N
  | [], _, _, _, h0, h1, _, _ => ⟨by rw [lnR]; omega, by rw [lnR]; omega⟩
  | x :: t, n, b, e, h0, h1, hb, hc => by
    obtain ⟨c1, c2, c3, c4⟩ := hc
    rw [lnR]
    split
    · split <;> omega
    · exact lnR_bd cells N t _ _ x.to (by omega) c3 (by split <;> omega) c4
theorem lineR_bd (cells : Int) (s : ByteArray) (h : 0 < s.size) : 0 < lineR cells s.size (pcs s) ∧ lineR cells s.size (pcs s) ≤ s.size := by
  have hc := pcs_ch s
  have hp := pcs_some s h
  cases hl : pcs s with
  | nil => rw [hl] at hp; exact absurd hp (by simp)
  | cons x t =>
    rw [hl] at hc
    obtain ⟨c1, c2, c3, c4⟩ := hc
    rw [lineR]
    exact lnR_bd cells s.size t _ _ x.to (by omega) c3 (by split <;> omega) c4

/-- The document's lines of a paragraph (e: none is there yet). -/
def parR (cells : Int) : Nat → ByteArray → Bool → List ByteArray
  | 0, _, _ => []
  | f + 1, s, e => if 1 ≤ cells ∧ 0 < s.size ∧ lineR cells s.size (pcs s) ≠ s.size then s.extract 0 (lineR cells s.size (pcs s)) :: parR cells f (s.extract (lineR cells s.size (pcs s)) s.size) false else if 0 < s.size ∨ e = true then [s] else []
theorem parR_fuel (cells : Int) : ∀ (f g : Nat) (s : ByteArray) (e : Bool), s.size < f → s.size < g → parR cells f s e = parR cells g s e
  | 0, _, _, _, h, _ => by omega
  | _ + 1, 0, _, _, _, h => by omega
  | f + 1, g + 1, s, e, h1, h2 => by
    unfold parR
    by_cases c : 1 ≤ cells ∧ 0 < s.size ∧ lineR cells s.size (pcs s) ≠ s.size
    · have hb := lineR_bd cells s c.2.1
      rw [if_pos c, if_pos c, parR_fuel cells f g _ _ (by rw [tail_size]; omega) (by rw [tail_size]; omega)]
    · rw [if_neg c, if_neg c]

end Go.Proofs.YtlooemhaoikidaaDoor
