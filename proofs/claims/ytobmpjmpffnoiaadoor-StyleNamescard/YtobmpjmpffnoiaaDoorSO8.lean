/-
  A stable sort, block by block, in plain words.
-/
import Derived.Test.YtobmpjmpffnoiaaDoorSO2
namespace Go.Proofs.YtobmpjmpffnoiaaDoor

theorem dvd_gap {k x y : Nat} (hx : k ∣ x) (hy : k ∣ y) (h : x < y) : x + k ≤ y := by
  obtain ⟨c, rfl⟩ := hx
  obtain ⟨d, rfl⟩ := hy
  have : c < d := Nat.lt_of_mul_lt_mul_left h
  calc k * c + k = k * (c + 1) := (Nat.mul_succ k c).symm
    _ ≤ k * d := Nat.mul_le_mul_left k this

theorem Lo.perm {f g : Nat → Nat} {x n p q : Nat} (h : Lo f 0 x n) (hp : Perm f g p q) (hq : q ≤ n) (hx : x ≤ p ∨ q ≤ x) : Lo g 0 x n := by
  intro i j _ i2 j1 j2
  obtain ⟨i', hi', ei⟩ : ∃ i', i' < x ∧ g i = f i' := by
    by_cases c : p ≤ i ∧ i < q
    · obtain ⟨u, u1, u2, e⟩ := hp.inn i c.1 c.2
      exact ⟨u, by omega, e⟩
    · exact ⟨i, i2, hp.out i c⟩
  obtain ⟨j', hj1, hj2, ej⟩ : ∃ j', x ≤ j' ∧ j' < n ∧ g j = f j' := by
    by_cases c : p ≤ j ∧ j < q
    · obtain ⟨u, u1, u2, e⟩ := hp.inn j c.1 c.2
      exact ⟨u, by omega, by omega, e⟩
    · exact ⟨j, j1, j2, hp.out j c⟩
  rw [ei, ej]
  exact h i' j' (Nat.zero_le _) hi' hj1 hj2
theorem Srt.far {s : Nat → Int} {f g : Nat → Nat} {a b p q : Nat} (h : Srt s f a b) (hp : Perm f g p q) (hx : b ≤ p ∨ q ≤ a) : Srt s g a b := h.congr fun k k1 k2 => hp.out k (by omega)

/-- Sorted block by block. -/
structure Bs (s : Nat → Int) (f : Nat → Nat) (k n : Nat) : Prop where
  srt : ∀ x, k ∣ x → x < n → Srt s f x (min (x + k) n)
  low : ∀ x, k ∣ x → Lo f 0 x n
structure InsP (s : Nat → Int) (f : Nat → Nat) (n a : Nat) : Prop where
  done : ∀ x, 20 ∣ x → x < a → Srt s f x (x + 20)
  asc : ∀ i j, a ≤ i → i < j → j < n → f i < f j
  low : ∀ x, 20 ∣ x → Lo f 0 x n
theorem InsP.start {s : Nat → Int} {f : Nat → Nat} {n : Nat} (h : ∀ i j, i < j → j < n → f i < f j) : InsP s f n 0 :=
  ⟨fun _ _ h => absurd h (by omega), fun i j _ h1 h2 => h i j h1 h2, fun x _ i j _ h1 h2 h3 => h i j (by omega) h3⟩
theorem InsP.step {s : Nat → Int} {f g : Nat → Nat} {n a : Nat} (h : InsP s f n a) (ha : 20 ∣ a) (hn : a + 20 ≤ n) (m : Mrg s f g a (a + 20)) : InsP s g n (a + 20) := by
  refine ⟨fun x hx hl => ?_, fun i j i1 i2 i3 => ?_, fun x hx => ?_⟩
  · by_cases c : x < a
    · exact (h.done x hx c).far m.2 (.inl (dvd_gap hx ha c))
    · by_cases e : x = a
      · subst e; exact m.1
      · have := dvd_gap ha hx (by omega); omega
  · rw [m.2.out i (by omega), m.2.out j (by omega)]; exact h.asc i j (by omega) i2 i3
  · refine (h.low x hx).perm m.2 hn ?_
    by_cases c : x ≤ a
    · exact .inl c
    · exact .inr (dvd_gap ha hx (by omega))
theorem InsP.last {s : Nat → Int} {f g : Nat → Nat} {n a : Nat} (h : InsP s f n a) (ha : 20 ∣ a) (hn : n < a + 20) (_han : a ≤ n) (m : Mrg s f g a n) : Bs s g 20 n := by
  refine ⟨fun x hx hl => ?_, fun x hx => ?_⟩
  · by_cases c : x < a
    · have := dvd_gap hx ha c
      exact ((h.done x hx c).far m.2 (.inl this)).part (Nat.le_refl _) (Nat.min_le_left _ _)
    · by_cases e : x = a
      · subst e; exact m.1.part (Nat.le_refl _) (Nat.min_le_right _ _)
      · have := dvd_gap ha hx (by omega); omega
  · refine (h.low x hx).perm m.2 (Nat.le_refl _) ?_
    by_cases c : x ≤ a
    · exact .inl c
    · have := dvd_gap ha hx (by omega); exact .inr (by omega)

structure Half (s : Nat → Int) (f : Nat → Nat) (k n a : Nat) : Prop where
  done : ∀ x, 2 * k ∣ x → x < a → Srt s f x (x + 2 * k)
  rest : ∀ x, k ∣ x → a ≤ x → x < n → Srt s f x (min (x + k) n)
  lowd : ∀ x, 2 * k ∣ x → Lo f 0 x n
  lowr : ∀ x, k ∣ x → a ≤ x → Lo f 0 x n
theorem dvd_two {k x : Nat} (h : 2 * k ∣ x) : k ∣ x := Nat.dvd_trans (Nat.dvd_mul_left k 2) h
theorem Half.start {s : Nat → Int} {f : Nat → Nat} {k n : Nat} (h : Bs s f k n) : Half s f k n 0 :=
  ⟨fun _ _ h => absurd h (by omega), fun x hx _ hn => h.srt x hx hn, fun x hx => h.low x (dvd_two hx), fun x hx _ => h.low x hx⟩
theorem Half.one {s : Nat → Int} {f : Nat → Nat} {k n a b : Nat} (h : Half s f k n a) (ha : 2 * k ∣ a) (hb : a + k < b) (hbn : b ≤ n) (hb2 : b ≤ a + 2 * k) : Srt s f a (a + k) ∧ Srt s f (a + k) b ∧ Lo f a (a + k) b := by
  have d1 := dvd_two ha
  have d2 : k ∣ a + k := (Nat.dvd_add_right d1).2 (Nat.dvd_refl k)
  refine ⟨(h.rest a d1 (Nat.le_refl _) (by omega)).part (Nat.le_refl _) (by omega), (h.rest (a + k) d2 (by omega) (by omega)).part (Nat.le_refl _) (by omega), fun i j i1 i2 j1 j2 => h.lowr (a + k) d2 (by omega) i j (Nat.zero_le _) i2 j1 (by omega)⟩
theorem Half.step {s : Nat → Int} {f g : Nat → Nat} {k n a : Nat} (h : Half s f k n a) (ha : 2 * k ∣ a) (hn : a + 2 * k ≤ n) (m : Mrg s f g a (a + 2 * k)) : Half s g k n (a + 2 * k) := by
  refine ⟨fun x hx hl => ?_, fun x hx hl hn' => ?_, fun x hx => ?_, fun x hx hl => ?_⟩
  · by_cases c : x < a
    · exact (h.done x hx c).far m.2 (.inl (dvd_gap hx ha c))
    · by_cases e : x = a
      · subst e; exact m.1
      · have := dvd_gap ha hx (by omega); omega
  · exact (h.rest x hx (by omega) hn').far m.2 (.inr hl)
  · refine (h.lowd x hx).perm m.2 hn ?_
    by_cases c : x ≤ a
    · exact .inl c
    · exact .inr (dvd_gap ha hx (by omega))
  · exact (h.lowr x hx (by omega)).perm m.2 hn (.inr hl)
theorem Half.last {s : Nat → Int} {f g : Nat → Nat} {k n a : Nat} (h : Half s f k n a) (ha : 2 * k ∣ a) (hn : n < a + 2 * k) (m : Mrg s f g a n) : Bs s g (2 * k) n := by
  refine ⟨fun x hx hl => ?_, fun x hx => ?_⟩
  · by_cases c : x < a
    · have := dvd_gap hx ha c
      exact ((h.done x hx c).far m.2 (.inl this)).part (Nat.le_refl _) (Nat.min_le_left _ _)
    · by_cases e : x = a
      · subst e; exact m.1.part (Nat.le_refl _) (Nat.min_le_right _ _)
      · have := dvd_gap ha hx (by omega); omega
  · refine (h.lowd x hx).perm m.2 (Nat.le_refl _) ?_
    by_cases c : x ≤ a
    · exact .inl c
    · have := dvd_gap ha hx (by omega); exact .inr (by omega)
theorem Half.none {s : Nat → Int} {f : Nat → Nat} {k n a : Nat} (h : Half s f k n a) (ha : 2 * k ∣ a) (hn : n ≤ a + k) (han : a ≤ n) : Mrg s f f a n := by
  refine ⟨?_, Perm.refl _ _ _⟩
  by_cases c : a < n
  · exact (h.rest a (dvd_two ha) (Nat.le_refl _) c).part (Nat.le_refl _) (by omega)
  · intro i j i1 i2 i3; omega
theorem Bs.all {s : Nat → Int} {f : Nat → Nat} {k n : Nat} (h : Bs s f k n) (hk : n ≤ k) : Srt s f 0 n := by
  by_cases c : 0 < n
  · exact (h.srt 0 (Nat.dvd_zero k) c).part (Nat.le_refl _) (by omega)
  · intro i j i1 i2 i3; omega

end Go.Proofs.YtobmpjmpffnoiaaDoor
