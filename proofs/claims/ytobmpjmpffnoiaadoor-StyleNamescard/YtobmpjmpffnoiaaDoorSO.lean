/-
  A stable sort in plain words: numbers by strength, ties by the number; rotations; what a merge in place makes.
-/
import Derived.Test.YtobmpjmpffnoiaaDoorRows
namespace Go.Proofs.YtobmpjmpffnoiaaDoor

/-- Weaker: of less strength, or of the same and earlier. -/
def Wk (s : Nat → Int) (x y : Nat) : Prop := s x < s y ∨ (s x = s y ∧ x < y)
theorem Wk.trans {s : Nat → Int} {x y z : Nat} (h : Wk s x y) (k : Wk s y z) : Wk s x z := by
  unfold Wk at *; omega
theorem Wk.irrefl {s : Nat → Int} {x : Nat} (h : Wk s x x) : False := by
  unfold Wk at h; omega
theorem wk_or (s : Nat → Int) (x y : Nat) (h : x ≠ y) : Wk s x y ∨ Wk s y x := by
  unfold Wk; omega
/-- The later one goes ahead just where it is of less strength. -/
theorem wk_lo {s : Nat → Int} {x y : Nat} (h : x < y) : Wk s y x ↔ s y < s x := by
  unfold Wk; omega
theorem wk_hi {s : Nat → Int} {x y : Nat} (h : x < y) : Wk s x y ↔ ¬ s y < s x := by
  unfold Wk; omega

def Srt (s : Nat → Int) (f : Nat → Nat) (a b : Nat) : Prop := ∀ i j, a ≤ i → i < j → j < b → Wk s (f i) (f j)
def Lo (f : Nat → Nat) (a m b : Nat) : Prop := ∀ i j, a ≤ i → i < m → m ≤ j → j < b → f i < f j
/-- The same outside; the same ones inside. -/
structure Perm (f g : Nat → Nat) (a b : Nat) : Prop where
  out : ∀ k, ¬ (a ≤ k ∧ k < b) → g k = f k
  inn : ∀ k, a ≤ k → k < b → ∃ j, a ≤ j ∧ j < b ∧ g k = f j
  bak : ∀ k, a ≤ k → k < b → ∃ j, a ≤ j ∧ j < b ∧ f k = g j

theorem Perm.refl (f : Nat → Nat) (a b : Nat) : Perm f f a b := ⟨fun _ _ => rfl, fun k h1 h2 => ⟨k, h1, h2, rfl⟩, fun k h1 h2 => ⟨k, h1, h2, rfl⟩⟩
theorem Perm.trans {f g h : Nat → Nat} {a b : Nat} (p : Perm f g a b) (q : Perm g h a b) : Perm f h a b :=
  ⟨fun k hk => (q.out k hk).trans (p.out k hk),
   fun k h1 h2 => by obtain ⟨j, j1, j2, e⟩ := q.inn k h1 h2; obtain ⟨i, i1, i2, e'⟩ := p.inn j j1 j2; exact ⟨i, i1, i2, e.trans e'⟩,
   fun k h1 h2 => by obtain ⟨j, j1, j2, e⟩ := p.bak k h1 h2; obtain ⟨i, i1, i2, e'⟩ := q.bak j j1 j2; exact ⟨i, i1, i2, e.trans e'⟩⟩
theorem Perm.wide {f g : Nat → Nat} {a b c d : Nat} (p : Perm f g a b) (hc : c ≤ a) (hd : b ≤ d) : Perm f g c d :=
  ⟨fun k hk => p.out k (by omega),
   fun k h1 h2 => by
    by_cases h : a ≤ k ∧ k < b
    · obtain ⟨j, j1, j2, e⟩ := p.inn k h.1 h.2; exact ⟨j, by omega, by omega, e⟩
    · exact ⟨k, h1, h2, p.out k h⟩,
   fun k h1 h2 => by
    by_cases h : a ≤ k ∧ k < b
    · obtain ⟨j, j1, j2, e⟩ := p.bak k h.1 h.2; exact ⟨j, by omega, by omega, e⟩
    · exact ⟨k, h1, h2, (p.out k h).symm⟩⟩

def swp2 (f : Nat → Nat) (i j : Nat) : Nat → Nat := fun k => if k = i then f j else if k = j then f i else f k
theorem swp2_perm (f : Nat → Nat) (i j a b : Nat) (i1 : a ≤ i) (i2 : i < b) (j1 : a ≤ j) (j2 : j < b) : Perm f (swp2 f i j) a b := by
  refine ⟨fun k hk => ?_, fun k h1 h2 => ?_, fun k h1 h2 => ?_⟩
  · unfold swp2; rw [if_neg (by omega), if_neg (by omega)]
  · unfold swp2
    by_cases h : k = i
    · exact ⟨j, j1, j2, by rw [if_pos h]⟩
    · by_cases h' : k = j
      · exact ⟨i, i1, i2, by rw [if_neg h, if_pos h']⟩
      · exact ⟨k, h1, h2, by rw [if_neg h, if_neg h']⟩
  · unfold swp2
    by_cases h : k = i
    · refine ⟨j, j1, j2, ?_⟩
      by_cases h' : j = i
      · rw [if_pos h', h, h']
      · rw [if_neg h', if_pos rfl, h]
    · by_cases h' : k = j
      · exact ⟨i, i1, i2, by rw [if_pos rfl, h']⟩
      · exact ⟨k, h1, h2, by rw [if_neg h, if_neg h']⟩

/-- What lies from m to e, then what lies from x to m. -/
def rot (f : Nat → Nat) (x m e : Nat) : Nat → Nat := fun k => if x ≤ k ∧ k < e then (if k < x + (e - m) then f (k + (m - x)) else f (k - (e - m))) else f k
theorem rot_perm (f : Nat → Nat) (x m e : Nat) (h1 : x ≤ m) (h2 : m ≤ e) : Perm f (rot f x m e) x e := by
  refine ⟨fun k hk => ?_, fun k k1 k2 => ?_, fun k k1 k2 => ?_⟩
  · unfold rot; rw [if_neg hk]
  · unfold rot
    rw [if_pos ⟨k1, k2⟩]
    by_cases h : k < x + (e - m)
    · exact ⟨k + (m - x), by omega, by omega, by rw [if_pos h]⟩
    · exact ⟨k - (e - m), by omega, by omega, by rw [if_neg h]⟩
  · by_cases h : k < m
    · refine ⟨k + (e - m), by omega, by omega, ?_⟩
      unfold rot
      rw [if_pos ⟨by omega, by omega⟩, if_neg (by omega)]
      congr 1; omega
    · refine ⟨k - (m - x), by omega, by omega, ?_⟩
      unfold rot
      rw [if_pos ⟨by omega, by omega⟩, if_pos (by omega)]
      congr 1; omega
theorem rot_lo (f : Nat → Nat) (x m e k : Nat) (h : k < x) : rot f x m e k = f k := by unfold rot; rw [if_neg (by omega)]
theorem rot_hi (f : Nat → Nat) (x m e k : Nat) (h : e ≤ k) : rot f x m e k = f k := by unfold rot; rw [if_neg (by omega)]
theorem rot_1 (f : Nat → Nat) (x m e k : Nat) (h1 : x ≤ m) (h2 : x ≤ k) (h3 : k < x + (e - m)) : rot f x m e k = f (k + (m - x)) := by
  unfold rot; rw [if_pos ⟨h2, by omega⟩, if_pos h3]
theorem rot_2 (f : Nat → Nat) (x m e k : Nat) (h2 : x + (e - m) ≤ k) (h3 : k < e) : rot f x m e k = f (k - (e - m)) := by
  unfold rot; rw [if_pos ⟨by omega, h3⟩, if_neg (by omega)]
theorem rot_none (f : Nat → Nat) (x m e : Nat) (h : x = m ∨ m = e) : rot f x m e = f := by
  funext k
  unfold rot
  by_cases h1 : x ≤ k ∧ k < e
  · rw [if_pos h1]
    by_cases h2 : k < x + (e - m)
    · rw [if_pos h2]; congr 1; omega
    · rw [if_neg h2]; congr 1; omega
  · rw [if_neg h1]

/-- Blocks of n that change places. -/
def swr (f : Nat → Nat) (a b n : Nat) : Nat → Nat := fun k => if a ≤ k ∧ k < a + n then f (k - a + b) else if b ≤ k ∧ k < b + n then f (k - b + a) else f k
theorem swr_zero (f : Nat → Nat) (a b : Nat) : swr f a b 0 = f := by
  funext k; unfold swr; rw [if_neg (by omega), if_neg (by omega)]
theorem swr_succ (f : Nat → Nat) (a b n N : Nat) (h : a + N ≤ b) (hn : n < N) : swp2 (swr f a b n) (a + n) (b + n) = swr f a b (n + 1) := by
  funext k
  unfold swp2 swr
  by_cases h1 : k = a + n
  · subst h1
    rw [if_pos rfl, if_neg (by omega), if_neg (by omega), if_pos ⟨by omega, by omega⟩]
    congr 1; omega
  · rw [if_neg h1]
    by_cases h2 : k = b + n
    · subst h2
      rw [if_pos rfl, if_neg (by omega), if_neg (by omega), if_neg (by omega), if_pos ⟨by omega, by omega⟩]
      congr 1; omega
    · rw [if_neg h2]
      by_cases h3 : a ≤ k ∧ k < a + n
      · rw [if_pos h3, if_pos ⟨h3.1, by omega⟩]
      · rw [if_neg h3, if_neg (show ¬ (a ≤ k ∧ k < a + (n + 1)) by omega)]
        by_cases h4 : b ≤ k ∧ k < b + n
        · rw [if_pos h4, if_pos ⟨h4.1, by omega⟩]
        · rw [if_neg h4, if_neg (show ¬ (b ≤ k ∧ k < b + (n + 1)) by omega)]

/-- A rotation is what is left of it behind a change of blocks. -/
theorem rot_more (f : Nat → Nat) (m i j : Nat) (hi : i ≤ m) (h : j < i) : rot (swr f (m - i) m j) (m - (i - j)) m (m + j) = rot f (m - i) m (m + j) := by
  funext k
  by_cases h1 : k < m - i
  · rw [rot_lo _ _ _ _ _ (by omega), rot_lo _ _ _ _ _ h1]; unfold swr; rw [if_neg (by omega), if_neg (by omega)]
  · by_cases h2 : m + j ≤ k
    · rw [rot_hi _ _ _ _ _ h2, rot_hi _ _ _ _ _ h2]; unfold swr; rw [if_neg (by omega), if_neg (by omega)]
    · by_cases h3 : k < m - i + j
      · rw [rot_lo _ _ _ _ _ (by omega), rot_1 _ _ _ _ _ (by omega) (by omega) (by omega)]
        unfold swr
        rw [if_pos ⟨by omega, by omega⟩]
        congr 1; omega
      · rw [rot_2 f _ _ _ _ (by omega) (by omega)]
        by_cases h4 : k < m - (i - j) + j
        · rw [rot_1 _ _ _ _ _ (by omega) (by omega) (by omega)]
          unfold swr
          rw [if_neg (by omega), if_pos ⟨by omega, by omega⟩]
          congr 1; omega
        · rw [rot_2 _ _ _ _ _ (by omega) (by omega)]
          unfold swr
          rw [if_neg (by omega), if_neg (by omega)]
theorem rot_less (f : Nat → Nat) (m i j : Nat) (hi : i ≤ m) (h : i < j) : rot (swr f (m - i) (m + j - i) i) (m - i) m (m + (j - i)) = rot f (m - i) m (m + j) := by
  funext k
  by_cases h1 : k < m - i
  · rw [rot_lo _ _ _ _ _ h1, rot_lo _ _ _ _ _ h1]; unfold swr; rw [if_neg (by omega), if_neg (by omega)]
  · by_cases h2 : m + j ≤ k
    · rw [rot_hi _ _ _ _ _ (by omega), rot_hi _ _ _ _ _ h2]; unfold swr; rw [if_neg (by omega), if_neg (by omega)]
    · by_cases h3 : k < m - i + j
      · rw [rot_1 f _ _ _ _ (by omega) (by omega) (by omega)]
        by_cases h4 : k < m - i + (j - i)
        · rw [rot_1 _ _ _ _ _ (by omega) (by omega) (by omega)]
          unfold swr
          rw [if_neg (by omega), if_neg (by omega)]
        · rw [rot_2 _ _ _ _ _ (by omega) (by omega)]
          unfold swr
          rw [if_pos ⟨by omega, by omega⟩]
          congr 1; omega
      · rw [rot_2 f _ _ _ _ (by omega) (by omega), rot_hi _ _ _ _ _ (by omega)]
        unfold swr
        rw [if_neg (by omega), if_pos ⟨by omega, by omega⟩]
        congr 1; omega
theorem rot_same (f : Nat → Nat) (m i : Nat) (hi : i ≤ m) : swr f (m - i) m i = rot f (m - i) m (m + i) := by
  funext k
  unfold swr rot
  by_cases h1 : m - i ≤ k ∧ k < m - i + i
  · rw [if_pos h1, if_pos ⟨by omega, by omega⟩, if_pos (by omega)]; congr 1; omega
  · rw [if_neg h1]
    by_cases h2 : m ≤ k ∧ k < m + i
    · rw [if_pos h2, if_pos ⟨by omega, by omega⟩, if_neg (by omega)]; congr 1; omega
    · rw [if_neg h2, if_neg (by omega)]

/-- One that goes up, one that goes down. -/
theorem rot_up (f : Nat → Nat) (a k : Nat) (h : a ≤ k) : swp2 (rot f a (a + 1) (k + 1)) k (k + 1) = rot f a (a + 1) (k + 1 + 1) := by
  funext i
  unfold swp2
  by_cases h1 : i = k
  · subst h1; rw [if_pos rfl, rot_hi _ _ _ _ _ (by omega), rot_1 _ _ _ _ _ (by omega) (by omega) (by omega)]; congr 1; omega
  · rw [if_neg h1]
    by_cases h2 : i = k + 1
    · subst h2; rw [if_pos rfl, rot_2 _ _ _ _ _ (by omega) (by omega), rot_2 _ _ _ _ _ (by omega) (by omega)]; congr 1; omega
    · rw [if_neg h2]
      by_cases h3 : i < a
      · rw [rot_lo _ _ _ _ _ h3, rot_lo _ _ _ _ _ h3]
      · by_cases h4 : i < k
        · rw [rot_1 _ _ _ _ _ (by omega) (by omega) (by omega), rot_1 _ _ _ _ _ (by omega) (by omega) (by omega)]
        · rw [rot_hi _ _ _ _ _ (by omega), rot_hi _ _ _ _ _ (by omega)]
theorem rot_down (f : Nat → Nat) (m k : Nat) (h : k < m) : swp2 (rot f (k + 1) m (m + 1)) (k + 1) k = rot f k m (m + 1) := by
  funext i
  unfold swp2
  by_cases h1 : i = k + 1
  · subst h1; rw [if_pos rfl, rot_lo _ _ _ _ _ (by omega), rot_2 _ _ _ _ _ (by omega) (by omega)]; congr 1; omega
  · rw [if_neg h1]
    by_cases h2 : i = k
    · subst h2; rw [if_pos rfl, rot_1 _ _ _ _ _ (by omega) (by omega) (by omega), rot_1 _ _ _ _ _ (by omega) (by omega) (by omega)]; congr 1; omega
    · rw [if_neg h2]
      by_cases h3 : i < k
      · rw [rot_lo _ _ _ _ _ (by omega), rot_lo _ _ _ _ _ h3]
      · by_cases h4 : i < m + 1
        · rw [rot_2 _ _ _ _ _ (by omega) (by omega), rot_2 _ _ _ _ _ (by omega) (by omega)]
        · rw [rot_hi _ _ _ _ _ (by omega), rot_hi _ _ _ _ _ (by omega)]

end Go.Proofs.YtobmpjmpffnoiaaDoor
