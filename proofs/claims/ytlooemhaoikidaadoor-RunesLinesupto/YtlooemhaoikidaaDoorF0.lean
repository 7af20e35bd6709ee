/-
  What the first rune of a text is, by its bytes.
-/
import Derived.Test.YtlooemhaoikidaaDoorRP
import Derived.Lib.DecodeN
namespace Go.Proofs.YtlooemhaoikidaaDoor

abbrev cnt (b : Nat) : Prop := 128 ≤ b ∧ b ≤ 191
def r2 (a b : Nat) : Nat := a % 32 * 64 + b % 64
def r3 (a b c : Nat) : Nat := (a % 16 * 64 + b % 64) * 64 + c % 64
def r4 (a b c d : Nat) : Nat := ((a % 8 * 64 + b % 64) * 64 + c % 64) * 64 + d % 64
def is2 (n a b : Nat) : Prop := 194 ≤ a ∧ a ≤ 223 ∧ 2 ≤ n ∧ cnt b
def is3 (n a b c : Nat) : Prop := 224 ≤ a ∧ a ≤ 239 ∧ 3 ≤ n ∧ cnt b ∧ cnt c ∧ 2048 ≤ r3 a b c ∧ (r3 a b c < 55296 ∨ 57344 ≤ r3 a b c)
def is4 (n a b c d : Nat) : Prop := 240 ≤ a ∧ a ≤ 244 ∧ 4 ≤ n ∧ cnt b ∧ cnt c ∧ cnt d ∧ 65536 ≤ r4 a b c d ∧ r4 a b c d ≤ 1114111

theorem dN_ascii {n a b c d : Nat} (h : a < 128) : Lib.decodeN n a b c d = (a, 1) := by
  unfold Lib.decodeN; simp [h]
theorem dN_two {n a b c d : Nat} (h : is2 n a b) : Lib.decodeN n a b c d = (r2 a b, 2) := by
  obtain ⟨h1, h2, h3, h4, h5⟩ := h
  unfold Lib.decodeN r2
  repeat' split
  all_goals first | rfl | (exfalso; omega)
theorem dN_three {n a b c d : Nat} (h : is3 n a b c) : Lib.decodeN n a b c d = (r3 a b c, 3) := by
  obtain ⟨h1, h2, h3, ⟨h4, h5⟩, ⟨h6, h7⟩, h8, h9⟩ := h
  unfold r3 at *
  unfold Lib.decodeN
  repeat' split
  all_goals first | (exfalso; omega) | exact Prod.ext (by dsimp only; omega) rfl
theorem dN_four {n a b c d : Nat} (h : is4 n a b c d) : Lib.decodeN n a b c d = (r4 a b c d, 4) := by
  obtain ⟨h1, h2, h3, ⟨h4, h5⟩, ⟨h6, h7⟩, ⟨h8, h9⟩, h10, h11⟩ := h
  unfold r4 at *
  unfold Lib.decodeN
  repeat' split
  all_goals first | (exfalso; omega) | exact Prod.ext (by dsimp only; omega) rfl
theorem dN_bad {n a b c d : Nat} (h0 : 128 ≤ a) (ha : a < 256) (hb : b < 256) (hc : c < 256) (hd : d < 256) (h2 : ¬ is2 n a b) (h3 : ¬ is3 n a b c) (h4 : ¬ is4 n a b c d) : Lib.decodeN n a b c d = (65533, 1) := by
  unfold is2 cnt at h2
  unfold is3 cnt r3 at h3
  unfold is4 cnt r4 at h4
  unfold Lib.decodeN
  repeat' split
  all_goals first | rfl | (exfalso; omega)

end Go.Proofs.YtlooemhaoikidaaDoor
