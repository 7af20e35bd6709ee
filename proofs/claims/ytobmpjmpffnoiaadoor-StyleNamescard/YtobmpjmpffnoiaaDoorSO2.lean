/-
  What a merge in place makes: sorted parts, one behind the other.
-/
import Derived.Test.YtobmpjmpffnoiaaDoorSO
namespace Go.Proofs.YtobmpjmpffnoiaaDoor

theorem Srt.part {s : Nat → Int} {f : Nat → Nat} {a b c d : Nat} (h : Srt s f a b) (hc : a ≤ c) (hd : d ≤ b) : Srt s f c d := fun i j h1 h2 h3 => h i j (by omega) h2 (by omega)
theorem Srt.congr {s : Nat → Int} {f g : Nat → Nat} {a b : Nat} (h : Srt s f a b) (e : ∀ k, a ≤ k → k < b → g k = f k) : Srt s g a b := fun i j h1 h2 h3 => by
  rw [e i h1 (by omega), e j (by omega) h3]; exact h i j h1 h2 h3
/-- Two sorted parts, all of the first weaker than all of the second. -/
theorem Srt.join {s : Nat → Int} {f : Nat → Nat} {a m b : Nat} (h : Srt s f a m) (k : Srt s f m b) (c : ∀ i j, a ≤ i → i < m → m ≤ j → j < b → Wk s (f i) (f j)) : Srt s f a b := fun i j h1 h2 h3 => by
  by_cases hj : j < m
  · exact h i j h1 h2 hj
  · by_cases hi : m ≤ i
    · exact k i j hi h2 h3
    · exact c i j h1 (by omega) (by omega) h3

/-- What the call owes: sorted from a to b; the same ones. -/
def Mrg (s : Nat → Int) (f g : Nat → Nat) (a b : Nat) : Prop := Srt s g a b ∧ Perm f g a b

/-- What a rotation has parted: the beginnings are weaker than the ends. -/
structure Cutd (s : Nat → Int) (f : Nat → Nat) (a m b x e : Nat) : Prop where
  ax : a ≤ x
  xm : x ≤ m
  me : m ≤ e
  eb : e ≤ b
  lo : a < x → e < b → Wk s (f (x - 1)) (f e)
  hi : x < m → m < e → Wk s (f (e - 1)) (f x)

theorem Srt.le {s : Nat → Int} {f : Nat → Nat} {a b i j : Nat} (h : Srt s f a b) (h1 : a ≤ i) (h2 : i ≤ j) (h3 : j < b) {y : Nat} (hy : Wk s (f j) y) : Wk s (f i) y := by
  by_cases e : i = j
  · rw [e]; exact hy
  · exact (h i j h1 (by omega) h3).trans hy
theorem Srt.ge {s : Nat → Int} {f : Nat → Nat} {a b i j : Nat} (h : Srt s f a b) (h1 : a ≤ i) (h2 : i ≤ j) (h3 : j < b) {y : Nat} (hy : Wk s y (f i)) : Wk s y (f j) := by
  by_cases e : i = j
  · rw [← e]; exact hy
  · exact hy.trans (h i j h1 (by omega) h3)

/-- Behind a rotation all of the first part are weaker than all of the second. -/
theorem Cutd.apart {s : Nat → Int} {f : Nat → Nat} {a m b x e : Nat} (h : Cutd s f a m b x e) (h1 : Srt s f a m) (h2 : Srt s f m b) :
    ∀ i j, a ≤ i → i < x + (e - m) → x + (e - m) ≤ j → j < b → Wk s (rot f x m e i) (rot f x m e j) := by
  obtain ⟨ax, xm, me, eb, lo, hi⟩ := h
  intro i j hi1 hi2 hj1 hj2
  by_cases ci : i < x
  · rw [rot_lo _ _ _ _ _ ci]
    by_cases cj : j < e
    · rw [rot_2 _ _ _ _ _ hj1 cj]
      exact h1 _ _ hi1 (by omega) (by omega)
    · rw [rot_hi _ _ _ _ _ (by omega)]
      exact h1.le hi1 (show i ≤ x - 1 by omega) (by omega) (h2.ge (show m ≤ e by omega) (by omega) hj2 (lo (by omega) (by omega)))
  · rw [rot_1 _ _ _ _ _ xm (by omega) hi2]
    by_cases cj : j < e
    · rw [rot_2 _ _ _ _ _ hj1 cj]
      exact h2.le (by omega) (show i + (m - x) ≤ e - 1 by omega) (by omega) (h1.ge (show a ≤ x by omega) (by omega) (by omega) (hi (by omega) (by omega)))
    · rw [rot_hi _ _ _ _ _ (by omega)]
      exact h2 _ _ (by omega) (by omega) hj2

theorem rot_srt_lo {s : Nat → Int} {f : Nat → Nat} {a m b x e : Nat} (h : Cutd s f a m b x e) (h1 : Srt s f a m) : Srt s (rot f x m e) a x :=
  (h1.part (Nat.le_refl _) h.xm).congr fun _ _ k2 => rot_lo _ _ _ _ _ k2
theorem rot_srt_1 {s : Nat → Int} {f : Nat → Nat} {a m b x e : Nat} (h : Cutd s f a m b x e) (h2 : Srt s f m b) : Srt s (rot f x m e) x (x + (e - m)) := fun i j i1 i2 i3 => by
  obtain ⟨ax, xm, me, eb, lo, hi⟩ := h
  rw [rot_1 _ _ _ _ _ xm i1 (by omega), rot_1 _ _ _ _ _ xm (by omega) i3]
  exact h2 _ _ (by omega) (by omega) (by omega)
theorem rot_srt_2 {s : Nat → Int} {f : Nat → Nat} {a m b x e : Nat} (h : Cutd s f a m b x e) (h1 : Srt s f a m) : Srt s (rot f x m e) (x + (e - m)) e := fun i j i1 i2 i3 => by
  obtain ⟨ax, xm, me, eb, lo, hi⟩ := h
  rw [rot_2 _ _ _ _ _ i1 (by omega), rot_2 _ _ _ _ _ (by omega) i3]
  exact h1 _ _ (by omega) (by omega) (by omega)
theorem rot_srt_hi {s : Nat → Int} {f : Nat → Nat} {a m b x e : Nat} (h : Cutd s f a m b x e) (h2 : Srt s f m b) : Srt s (rot f x m e) e b :=
  (h2.part h.me (Nat.le_refl _)).congr fun _ k1 _ => rot_hi _ _ _ _ _ k1
theorem rot_low_lo {s : Nat → Int} {f : Nat → Nat} {a m b x e : Nat} (h : Cutd s f a m b x e) (hl : Lo f a m b) : Lo (rot f x m e) a x (x + (e - m)) := fun i j i1 i2 j1 j2 => by
  obtain ⟨ax, xm, me, eb, lo, hi⟩ := h
  rw [rot_lo _ _ _ _ _ i2, rot_1 _ _ _ _ _ xm j1 j2]
  exact hl _ _ i1 (by omega) (by omega) (by omega)
theorem rot_low_hi {s : Nat → Int} {f : Nat → Nat} {a m b x e : Nat} (h : Cutd s f a m b x e) (hl : Lo f a m b) : Lo (rot f x m e) (x + (e - m)) e b := fun i j i1 i2 j1 j2 => by
  obtain ⟨ax, xm, me, eb, lo, hi⟩ := h
  rw [rot_2 _ _ _ _ _ i1 i2, rot_hi _ _ _ _ _ j1]
  exact hl _ _ (by omega) (by omega) (by omega) j2

/-- One part, then the other: sorted as a whole. -/
theorem mrg_whole {s : Nat → Int} {f g g' : Nat → Nat} {a d b : Nat} (had : a ≤ d) (hdb : d ≤ b) (hx : ∀ i j, a ≤ i → i < d → d ≤ j → j < b → Wk s (f i) (f j))
    (h1 : Mrg s f g a d) (h2 : Mrg s g g' d b) : Mrg s f g' a b := by
  obtain ⟨s1, p1⟩ := h1
  obtain ⟨s2, p2⟩ := h2
  refine ⟨Srt.join (s1.congr fun k _ k2 => p2.out k (by omega)) s2 ?_, (p1.wide (Nat.le_refl _) hdb).trans (p2.wide had (Nat.le_refl _))⟩
  intro i j i1 i2 j1 j2
  rw [p2.out i (by omega)]
  obtain ⟨u, u1, u2, e1⟩ := p1.inn i i1 i2
  obtain ⟨v, v1, v2, e2⟩ := p2.inn j j1 j2
  rw [e1, e2, p1.out v (by omega)]
  exact hx u v u1 u2 v1 v2

/-- Where both parts are short: the rotation alone. -/
theorem rot_whole {s : Nat → Int} {f : Nat → Nat} {a m b x e : Nat} (h : Cutd s f a m b x e) (h1 : Srt s f a m) (h2 : Srt s f m b)
    (z1 : ∀ i j, a ≤ i → i < x → m ≤ j → j < e → Wk s (f i) (f j)) (z2 : ∀ i j, x ≤ i → i < m → e ≤ j → j < b → Wk s (f i) (f j)) : Mrg s f (rot f x m e) a b := by
  refine ⟨Srt.join (m := x + (e - m)) (Srt.join (m := x) (rot_srt_lo h h1) (rot_srt_1 h h2) ?_) (Srt.join (m := e) (rot_srt_2 h h1) (rot_srt_hi h h2) ?_) (h.apart h1 h2), (rot_perm f x m e h.xm h.me).wide h.ax h.eb⟩
  · intro i j i1 i2 j1 j2
    have := h.xm
    rw [rot_lo _ _ _ _ _ i2, rot_1 _ _ _ _ _ h.xm j1 j2]
    exact z1 _ _ i1 i2 (by omega) (by omega)
  · intro i j i1 i2 j1 j2
    have := h.me
    rw [rot_2 _ _ _ _ _ i1 i2, rot_hi _ _ _ _ _ j1]
    exact z2 _ _ (by omega) (by omega) j1 j2

/-- Numbers that stand in one order stand as one row. -/
theorem srt_unique {s : Nat → Int} : ∀ (n : Nat) {f g : Nat → Nat}, Srt s f 0 n → Srt s g 0 n → (∀ k, k < n → ∃ j, j < n ∧ f k = g j) → (∀ k, k < n → ∃ j, j < n ∧ g k = f j) → ∀ k, k < n → f k = g k := by
  intro n f g hf hg h1 h2 k
  induction k using Nat.strongRecOn with
  | ind k ih =>
    intro hk
    obtain ⟨j, hj, e⟩ := h1 k hk
    obtain ⟨i, hi, e'⟩ := h2 k hk
    by_cases c : f k = g k
    · exact c
    · exfalso
      have j1 : k < j := by
        apply Nat.lt_of_not_le; intro hle
        have jk : j ≠ k := by intro h; subst h; exact c e
        have := ih j (by omega) hj
        have q := hf j k (by omega) (by omega) hk
        rw [this, ← e] at q
        exact q.irrefl
      have i1 : k < i := by
        apply Nat.lt_of_not_le; intro hle
        have ik : i ≠ k := by intro h; subst h; exact c e'.symm
        have := ih i (by omega) hi
        have q := hg i k (by omega) (by omega) hk
        rw [← this, ← e'] at q
        exact q.irrefl
      have p := hg k j (by omega) j1 hj
      have q := hf k i (by omega) i1 hi
      rw [← e] at p
      rw [← e'] at q
      exact (p.trans q).irrefl

end Go.Proofs.YtobmpjmpffnoiaaDoor
