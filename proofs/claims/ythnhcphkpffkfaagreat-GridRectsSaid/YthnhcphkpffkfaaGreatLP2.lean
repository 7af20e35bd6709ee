/-
  The least numbers in plain lists.
-/
import Derived.Test.YthnhcphkpffkfaaGreatProg
namespace Go.Proofs.YthnhcphkpffkfaaGreat

/-- A bound: the number b is at least f more than the number a. -/
structure Bn where
  a : Nat
  b : Nat
  f : Int
/-- Numbers, by which bound each was made, the last that was changed in this round. -/
structure Rs where
  x : Nat → Int
  m : Nat → Option Nat
  l : Option Nat
def setN {α : Type} (g : Nat → α) (k : Nat) (v : α) : Nat → α := fun i => if i = k then v else g i
theorem setN_same {α : Type} (g : Nat → α) (k : Nat) (v : α) : setN g k v k = v := by simp [setN]
theorem setN_ne {α : Type} (g : Nat → α) {k i : Nat} (v : α) (h : i ≠ k) : setN g k v i = g i := by simp [setN, h]
def relax (i : Nat) (b : Bn) (s : Rs) : Rs := if s.x b.b < s.x b.a + b.f then ⟨setN s.x b.b (s.x b.a + b.f), setN s.m b.b (some i), some b.b⟩ else s
def rnd : List Bn → Nat → Rs → Rs
  | [], _, s => s
  | b :: t, i, s => rnd t (i + 1) (relax i b s)
/-- At most so many rounds; they end with one that changes nothing. -/
def rds (L : List Bn) : Nat → Rs → Rs
  | 0, s => s
  | k + 1, s => if (rnd L 0 ⟨s.x, s.m, none⟩).l = none then rnd L 0 ⟨s.x, s.m, none⟩ else rds L k (rnd L 0 ⟨s.x, s.m, none⟩)
def rs0 : Rs := ⟨fun _ => 0, fun _ => none, none⟩
/-- Numbers that keep bounds. -/
def Kps (L : List Bn) (x : Nat → Int) : Prop := ∀ b ∈ L, x b.a + b.f ≤ x b.b

theorem relax_le {i : Nat} {b : Bn} {s : Rs} {y : Nat → Int} (hk : y b.a + b.f ≤ y b.b) (h : ∀ v, s.x v ≤ y v) : ∀ v, (relax i b s).x v ≤ y v := by
  intro v
  unfold relax
  split
  · by_cases c : v = b.b
    · subst c
      show setN _ _ _ _ ≤ _
      rw [setN_same]
      have := h b.a
      omega
    · show setN _ _ _ _ ≤ _
      rw [setN_ne _ _ c]
      exact h v
  · exact h v
theorem rnd_le {y : Nat → Int} : ∀ {L : List Bn} {i : Nat} {s : Rs}, Kps L y → (∀ v, s.x v ≤ y v) → ∀ v, (rnd L i s).x v ≤ y v
  | [], _, _, _, h => h
  | b :: t, i, s, hk, h => rnd_le (L := t) (fun c hc => hk c (by simp [hc])) (relax_le (hk b (by simp)) h)
/-- Below all that keep the bounds. -/
theorem rds_le {y : Nat → Int} {L : List Bn} (hk : Kps L y) : ∀ {k : Nat} {s : Rs}, (∀ v, s.x v ≤ y v) → ∀ v, (rds L k s).x v ≤ y v
  | 0, _, h => h
  | k + 1, s, h => by
    rw [rds]
    have h1 : ∀ v, (rnd L 0 ⟨s.x, s.m, none⟩).x v ≤ y v := rnd_le hk h
    split
    · exact h1
    · exact rds_le hk h1
theorem relax_ge (i : Nat) (b : Bn) (s : Rs) : ∀ v, s.x v ≤ (relax i b s).x v := by
  intro v
  unfold relax
  split
  · next h =>
    show _ ≤ setN _ _ _ _
    by_cases c : v = b.b
    · subst c; rw [setN_same]; omega
    · rw [setN_ne _ _ c]; exact Int.le_refl _
  · exact Int.le_refl _
theorem rnd_ge : ∀ (L : List Bn) (i : Nat) (s : Rs), ∀ v, s.x v ≤ (rnd L i s).x v
  | [], _, _, _ => Int.le_refl _
  | b :: t, i, s, v => Int.le_trans (relax_ge i b s v) (rnd_ge t (i + 1) (relax i b s) v)
theorem rds_ge (L : List Bn) : ∀ (k : Nat) (s : Rs), ∀ v, s.x v ≤ (rds L k s).x v
  | 0, _, _ => Int.le_refl _
  | k + 1, s, v => by
    rw [rds]
    have h1 : s.x v ≤ (rnd L 0 ⟨s.x, s.m, none⟩).x v := rnd_ge L 0 ⟨s.x, s.m, none⟩ v
    split
    · exact h1
    · exact Int.le_trans h1 (rds_ge L k _ v)
theorem relax_some {i : Nat} {b : Bn} {s : Rs} (h : s.l ≠ none) : (relax i b s).l ≠ none := by
  unfold relax
  split
  · simp
  · exact h
theorem rnd_some : ∀ {L : List Bn} {i : Nat} {s : Rs}, s.l ≠ none → (rnd L i s).l ≠ none
  | [], _, _, h => h
  | _ :: t, i, _, h => rnd_some (L := t) (i := i + 1) (relax_some h)
/-- A round that changes nothing: all bounds are kept. -/
theorem rnd_none : ∀ {L : List Bn} {i : Nat} {s : Rs}, (rnd L i s).l = none → rnd L i s = s ∧ Kps L s.x
  | [], _, _, _ => ⟨rfl, fun b hb => by cases hb⟩
  | b :: t, i, s, h => by
    rw [rnd] at h ⊢
    by_cases c : s.x b.b < s.x b.a + b.f
    · exfalso
      refine rnd_some (L := t) (i := i + 1) (s := relax i b s) ?_ h
      unfold relax
      rw [if_pos c]
      simp
    · have e : relax i b s = s := by unfold relax; rw [if_neg c]
      rw [e] at h ⊢
      obtain ⟨h1, h2⟩ := rnd_none h
      refine ⟨h1, fun d hd => ?_⟩
      rcases List.mem_cons.1 hd with rfl | hd
      · omega
      · exact h2 d hd
theorem rds_kept {L : List Bn} : ∀ {k : Nat} {s : Rs}, 0 < k → (rds L k s).l = none → Kps L (rds L k s).x
  | 0, _, h, _ => absurd h (Nat.lt_irrefl 0)
  | k + 1, s, _, h => by
    rw [rds] at h ⊢
    split at h
    · next c =>
      rw [if_pos c]
      obtain ⟨h1, h2⟩ := rnd_none c
      rw [h1]
      exact h2
    · next c =>
      rw [if_neg c]
      cases k with
      | zero => exact absurd h c
      | succ k => exact rds_kept (Nat.succ_pos k) h

/-- Whence a number was made. -/
def prd (L : List Bn) (s : Rs) (v : Nat) : Option Bn := (s.m v).bind fun i => L[i]?
/-- So many steps back are there. -/
def stp (L : List Bn) (s : Rs) : Nat → Nat → Option Nat
  | 0, v => some v
  | j + 1, v => (prd L s v).bind fun b => stp L s j b.a
def sumF (L : List Bn) (s : Rs) : Nat → Nat → Int
  | 0, _ => 0
  | j + 1, v => match prd L s v with
    | some b => b.f + sumF L s j b.a
    | none => 0
/-- What holds between the steps of a round: k rounds have begun, of the one that goes on the first j bounds were looked at. -/
structure Inv (L : List Bn) (k j : Nat) (r : Nat → Nat) (s : Rs) : Prop where
  top : ∀ v, r v ≤ k
  no : ∀ v, r v = 0 → s.m v = none ∧ s.x v = 0
  yes : ∀ v, 0 < r v → ∃ i b, s.m v = some i ∧ L[i]? = some b ∧ b.b = v ∧ s.x v ≤ s.x b.a + b.f ∧ r v ≤ r b.a + 1
  late : ∀ i b, L[i]? = some b → s.x b.b < s.x b.a + b.f → (if i < j then k else k - 1) ≤ r b.a
  cyc : ∀ q v, 0 < q → stp L s q v = some v → 0 < sumF L s q v
theorem inv_prd {L : List Bn} {k j : Nat} {r : Nat → Nat} {s : Rs} (h : Inv L k j r s) {v : Nat} {b : Bn} (hp : prd L s v = some b) : b.b = v ∧ s.x v ≤ s.x b.a + b.f ∧ r v ≤ r b.a + 1 ∧ 0 < r v := by
  have hr : 0 < r v := by
    rcases Nat.eq_zero_or_pos (r v) with c | c
    · have := (h.no v c).1
      unfold prd at hp
      rw [this] at hp
      cases hp
    · exact c
  obtain ⟨i, c, h1, h2, h3, h4, h5⟩ := h.yes v hr
  unfold prd at hp
  rw [h1] at hp
  simp only [Option.bind_some] at hp
  rw [h2] at hp
  injection hp with hp
  subst hp
  exact ⟨h3, h4, h5, hr⟩
/-- Is a number met within so many steps back? -/
def met (L : List Bn) (s : Rs) (w : Nat) : Nat → Nat → Prop
  | 0, _ => False
  | q + 1, v => v = w ∨ ∃ b, prd L s v = some b ∧ met L s w q b.a
/-- Steps in the graph with one entry more, by the numbers that were there. -/
theorem stp_sum {L : List Bn} {s : Rs} {w : Nat} {i : Nat} {c : Bn} {y : Nat → Int} (hi : L[i]? = some c) (hc : y w < y c.a + c.f) (hy : ∀ v b, v ≠ w → prd L s v = some b → y v ≤ y b.a + b.f) (s' : Rs) (hs : s'.m = setN s.m w (some i)) :
    ∀ q v u, stp L s' q v = some u → y v ≤ y u + sumF L s' q v ∧ (met L s' w q v → y v < y u + sumF L s' q v)
  | 0, v, u, h => by
    simp only [stp, Option.some.injEq] at h
    subst h
    exact ⟨by simp [sumF], fun h => h.elim⟩
  | q + 1, v, u, h => by
    rw [stp] at h
    obtain ⟨b, hb, h⟩ := Option.bind_eq_some_iff.1 h
    obtain ⟨i1, i2⟩ := stp_sum hi hc hy s' hs q b.a u h
    have e : sumF L s' (q + 1) v = b.f + sumF L s' q b.a := by rw [sumF, hb]
    rw [e]
    by_cases cv : v = w
    · subst cv
      have hbc : b = c := by
        unfold prd at hb
        rw [hs, setN_same] at hb
        simp only [Option.bind_some] at hb
        rw [hi] at hb
        injection hb with hb
        exact hb.symm
      subst hbc
      exact ⟨by omega, fun _ => by omega⟩
    · have hb' : prd L s v = some b := by
        unfold prd at hb ⊢
        rw [hs, setN_ne _ _ cv] at hb
        exact hb
      have := hy v b cv hb'
      refine ⟨by omega, fun hm => ?_⟩
      rw [met] at hm
      rcases hm with hm | ⟨d, hd, hm⟩
      · exact absurd hm cv
      · rw [hb] at hd
        injection hd with hd
        subst hd
        have := i2 hm
        omega
/-- Steps that do not meet the new entry are as they were. -/
theorem stp_old {L : List Bn} {s : Rs} {w i : Nat} (s' : Rs) (hs : s'.m = setN s.m w (some i)) : ∀ q v, ¬ met L s' w q v → stp L s' q v = stp L s q v ∧ sumF L s' q v = sumF L s q v
  | 0, v, _ => ⟨rfl, rfl⟩
  | q + 1, v, h => by
    have cv : v ≠ w := fun c => h (.inl c)
    have hp : prd L s' v = prd L s v := by unfold prd; rw [hs, setN_ne _ _ cv]
    rw [stp, stp, sumF, sumF, hp]
    cases hb : prd L s v with
    | none => exact ⟨rfl, rfl⟩
    | some b =>
      obtain ⟨i1, i2⟩ := stp_old s' hs q b.a (fun hm => h (.inr ⟨b, by rw [hp, hb], hm⟩))
      simp only [Option.bind_some]
      exact ⟨i1, by rw [i2]⟩
theorem relax_inv {L : List Bn} {k j : Nat} {r : Nat → Nat} {s : Rs} {b : Bn} (hk : 0 < k) (h : Inv L k j r s) (hb : L[j]? = some b) :
    ∃ r', Inv L k (j + 1) r' (relax j b s) ∧ (∀ v, (relax j b s).l = some v → s.l = some v ∨ r' v = k) ∧ ∀ v, r v ≤ r' v := by
  by_cases c : s.x b.b < s.x b.a + b.f
  · have e : relax j b s = ⟨setN s.x b.b (s.x b.a + b.f), setN s.m b.b (some j), some b.b⟩ := by unfold relax; rw [if_pos c]
    have hl := h.late j b hb c
    rw [if_neg (Nat.lt_irrefl j)] at hl
    refine ⟨setN r b.b k, ?_, ?_, ?_⟩
    · rw [e]
      have hx : ∀ v, s.x v ≤ setN s.x b.b (s.x b.a + b.f) v := fun v => by
        by_cases cv : v = b.b
        · subst cv; rw [setN_same]; omega
        · rw [setN_ne _ _ cv]; exact Int.le_refl _
      have hr : ∀ v, r v ≤ setN r b.b k v := fun v => by
        by_cases cv : v = b.b
        · subst cv; rw [setN_same]; exact h.top _
        · rw [setN_ne _ _ cv]; exact Nat.le_refl _
      refine ⟨fun v => ?_, fun v hv => ?_, fun v hv => ?_, fun i d hd hv => ?_, fun q v hq hs => ?_⟩
      · by_cases cv : v = b.b
        · subst cv; rw [setN_same]; exact Nat.le_refl _
        · rw [setN_ne _ _ cv]; exact h.top v
      · by_cases cv : v = b.b
        · subst cv; rw [setN_same] at hv; omega
        · rw [setN_ne _ _ cv] at hv
          show setN _ _ _ _ = _ ∧ setN _ _ _ _ = _
          rw [setN_ne _ _ cv, setN_ne _ _ cv]
          exact h.no v hv
      · by_cases cv : v = b.b
        · subst cv
          refine ⟨j, b, setN_same _ _ _, hb, rfl, ?_, ?_⟩
          · show setN _ _ _ _ ≤ setN _ _ _ _ + _
            rw [setN_same]
            have := hx b.a
            omega
          · rw [setN_same]
            have := hr b.a
            omega
        · rw [setN_ne _ _ cv] at hv
          obtain ⟨i, d, h1, h2, h3, h4, h5⟩ := h.yes v hv
          refine ⟨i, d, ?_, h2, h3, ?_, ?_⟩
          · show setN _ _ _ _ = _
            rw [setN_ne _ _ cv]; exact h1
          · show setN _ _ _ _ ≤ setN _ _ _ _ + _
            rw [setN_ne _ _ cv]
            have := hx d.a
            omega
          · rw [setN_ne _ _ cv]
            have := hr d.a
            omega
      · have hv' : setN s.x b.b (s.x b.a + b.f) d.b < setN s.x b.b (s.x b.a + b.f) d.a + d.f := hv
        by_cases ca : d.a = b.b
        · rw [ca, setN_same]
          split <;> omega
        · rw [setN_ne _ _ ca] at hv' ⊢
          by_cases ci : i = j
          · subst ci
            rw [hb] at hd
            injection hd with hd
            subst hd
            rw [setN_same] at hv'
            omega
          · have := h.late i d hd (by have := hx d.b; omega)
            split
            · next c1 => rw [if_pos (by omega)] at this; exact this
            · next c1 => rw [if_neg (by omega)] at this; exact this
      · by_cases hm : met L ⟨setN s.x b.b (s.x b.a + b.f), setN s.m b.b (some j), some b.b⟩ b.b q v
        · have := (stp_sum hb c (fun v d _ hp => (inv_prd h hp).2.1) _ rfl q v v hs).2 hm
          omega
        · obtain ⟨i1, i2⟩ := stp_old (s := s) (L := L) _ rfl q v hm
          rw [i1] at hs
          rw [i2]
          exact h.cyc q v hq hs
    · intro v hv
      rw [e] at hv
      injection hv with hv
      subst hv
      exact .inr (setN_same _ _ _)
    · intro v
      by_cases cv : v = b.b
      · subst cv; rw [setN_same]; exact h.top _
      · rw [setN_ne _ _ cv]; exact Nat.le_refl _
  · have e : relax j b s = s := by unfold relax; rw [if_neg c]
    rw [e]
    refine ⟨r, ⟨h.top, h.no, h.yes, fun i d hd hv => ?_, h.cyc⟩, fun v hv => .inl hv, fun v => Nat.le_refl _⟩
    by_cases ci : i = j
    · subst ci
      rw [hb] at hd
      injection hd with hd
      subst hd
      exact absurd hv c
    · have := h.late i d hd hv
      split
      · next c1 => rw [if_pos (by omega)] at this; exact this
      · next c1 => rw [if_neg (by omega)] at this; exact this
theorem rnd_inv {L : List Bn} {k : Nat} (hk : 0 < k) : ∀ (t : List Bn) {j : Nat} {r : Nat → Nat} {s : Rs}, L.drop j = t → Inv L k j r s → (∀ v, s.l = some v → r v = k) →
    ∃ r', Inv L k (j + t.length) r' (rnd t j s) ∧ ∀ v, (rnd t j s).l = some v → r' v = k
  | [], j, r, s, _, h, hl => ⟨r, by simpa [rnd] using h, hl⟩
  | b :: t, j, r, s, ht, h, hl => by
    have hb : L[j]? = some b := by
      have := congrArg (·[0]?) ht
      simpa using this
    have ht' : L.drop (j + 1) = t := by
      rw [← List.drop_drop, ht]
      rfl
    obtain ⟨r1, h1, h2, h3⟩ := relax_inv hk h hb
    obtain ⟨r2, h4, h5⟩ := rnd_inv hk t ht' h1 (fun v hv => by
      rcases h2 v hv with h | h
      · have a := hl v h
        have b := h3 v
        have c := h1.top v
        omega
      · exact h)
    refine ⟨r2, ?_, h5⟩
    rw [rnd, List.length_cons]
    have e : j + (t.length + 1) = j + 1 + t.length := by omega
    rw [e]
    exact h4
theorem stp_m {L : List Bn} {s s' : Rs} (h : s'.m = s.m) : ∀ q v, stp L s' q v = stp L s q v ∧ sumF L s' q v = sumF L s q v
  | 0, _ => ⟨rfl, rfl⟩
  | q + 1, v => by
    have hp : prd L s' v = prd L s v := by unfold prd; rw [h]
    rw [stp, stp, sumF, sumF, hp]
    cases prd L s v with
    | none => exact ⟨rfl, rfl⟩
    | some b => exact ⟨(stp_m h q b.a).1, by simp only; rw [(stp_m h q b.a).2]⟩
/-- A round is over: the next one begins. -/
theorem inv_next {L : List Bn} {k : Nat} {r : Nat → Nat} {s : Rs} (h : Inv L k L.length r s) : Inv L (k + 1) 0 r ⟨s.x, s.m, none⟩ :=
  ⟨fun v => Nat.le_succ_of_le (h.top v), h.no, h.yes, fun i b hb hv => by
    have := h.late i b hb hv
    rw [if_pos (List.getElem?_eq_some_iff.1 hb).1] at this
    rw [if_neg (Nat.not_lt_zero i)]
    exact this, fun q v hq hs => by
    rw [(stp_m (s := s) (s' := ⟨s.x, s.m, none⟩) rfl q v).1] at hs
    rw [(stp_m (s := s) (s' := ⟨s.x, s.m, none⟩) rfl q v).2]
    exact h.cyc q v hq hs⟩
theorem rds_inv {L : List Bn} : ∀ (q k : Nat) {r : Nat → Nat} {s : Rs}, Inv L k L.length r s → ∀ v, (rds L q s).l = some v → 0 < q → ∃ r', Inv L (k + q) L.length r' (rds L q s) ∧ r' v = k + q
  | 0, _, _, _, _, _, _, h => absurd h (Nat.lt_irrefl 0)
  | q + 1, k, r, s, h, v, hv, _ => by
    rw [rds] at hv ⊢
    obtain ⟨r1, h1, h2⟩ := rnd_inv (Nat.succ_pos k) L (by rw [List.drop_zero]) (inv_next h) (fun v hv => by cases hv)
    rw [Nat.zero_add] at h1
    split at hv
    · next c => rw [c] at hv; cases hv
    · next c =>
      rw [if_neg c]
      cases q with
      | zero =>
        refine ⟨r1, h1, h2 v hv⟩
      | succ q =>
        obtain ⟨r2, h3, h4⟩ := rds_inv (q + 1) (k + 1) h1 v hv (Nat.succ_pos q)
        refine ⟨r2, ?_, ?_⟩
        · have e : k + (q + 1 + 1) = k + 1 + (q + 1) := by omega
          rw [e]; exact h3
        · omega
theorem stp_none (L : List Bn) : ∀ q v, 0 < q → stp L rs0 q v = none
  | 0, _, h => absurd h (Nat.lt_irrefl 0)
  | q + 1, v, _ => by rw [stp]; rfl
theorem inv_start (L : List Bn) : Inv L 0 L.length (fun _ => 0) rs0 :=
  ⟨fun _ => Nat.le_refl _, fun _ _ => ⟨rfl, rfl⟩, fun _ h => absurd h (Nat.lt_irrefl 0), fun _ _ _ _ => by split <;> omega, fun q v hq hs => by rw [stp_none L q v hq] at hs; cases hs⟩

theorem stp_add (L : List Bn) (s : Rs) : ∀ (i j v : Nat), stp L s (i + j) v = (stp L s i v).bind (stp L s j)
  | 0, j, v => by rw [Nat.zero_add]; rfl
  | i + 1, j, v => by
    have e : i + 1 + j = (i + j) + 1 := by omega
    rw [e, stp, stp]
    cases prd L s v with
    | none => rfl
    | some b => exact stp_add L s i j b.a
/-- One goes back as many times as there were rounds. -/
theorem chain {L : List Bn} {k j n : Nat} {r : Nat → Nat} {s : Rs} (h : Inv L k j r s) : ∀ (i : Nat) (v : Nat), n ≤ r v → i ≤ n → ∃ u, stp L s i v = some u ∧ n - i ≤ r u
  | 0, v, hv, _ => ⟨v, rfl, hv⟩
  | i + 1, v, hv, hi => by
    obtain ⟨q, b, h1, h2, h3, h4, h5⟩ := h.yes v (by omega)
    have hp : prd L s v = some b := by unfold prd; rw [h1]; exact h2
    obtain ⟨u, hu, hr⟩ := chain (n := n - 1) h i b.a (by omega) (by omega)
    refine ⟨u, ?_, by omega⟩
    rw [stp, hp]
    exact hu
/-- All bounds are about the first n numbers. -/
def Abt (n : Nat) (L : List Bn) : Prop := ∀ b ∈ L, b.a < n ∧ b.b < n
theorem prd_lt {n : Nat} {L : List Bn} (hn : Abt n L) {s : Rs} {v : Nat} {b : Bn} (h : prd L s v = some b) : b.a < n ∧ b ∈ L := by
  unfold prd at h
  obtain ⟨i, _, h2⟩ := Option.bind_eq_some_iff.1 h
  have hm := List.mem_of_getElem? h2
  exact ⟨(hn b hm).1, hm⟩
theorem stp_lt {n : Nat} {L : List Bn} (hn : Abt n L) {s : Rs} : ∀ (i v u : Nat), v < n → stp L s i v = some u → u < n
  | 0, v, u, hv, h => by
    simp only [stp, Option.some.injEq] at h
    omega
  | i + 1, v, u, _, h => by
    rw [stp] at h
    obtain ⟨b, hb, h⟩ := Option.bind_eq_some_iff.1 h
    exact stp_lt hn i b.a u (prd_lt hn hb).1 h
/-- Of n + 1 numbers below n two are the same. -/
theorem pigeon {n : Nat} (g : Nat → Nat) (hg : ∀ i, i ≤ n → g i < n) : ∃ i j, i < j ∧ j ≤ n ∧ g i = g j := by
  induction n generalizing g with
  | zero => exact absurd (hg 0 (Nat.le_refl _)) (Nat.not_lt_zero _)
  | succ n ih =>
    by_cases c : ∃ i, i ≤ n ∧ g i = g (n + 1)
    · obtain ⟨i, hi, he⟩ := c
      exact ⟨i, n + 1, by omega, Nat.le_refl _, he⟩
    · have c' : ∀ i, i ≤ n → g i ≠ g (n + 1) := fun i hi he => c ⟨i, hi, he⟩
      obtain ⟨i, j, h1, h2, h3⟩ := ih (fun i => if g i = n then g (n + 1) else g i) (fun i hi => by
        have h1 := hg i (by omega)
        have h2 := hg (n + 1) (Nat.le_refl _)
        have h3 := c' i hi
        split <;> omega)
      refine ⟨i, j, h1, by omega, ?_⟩
      have a := c' i (by omega)
      have b := c' j h2
      split at h3 <;> split at h3 <;> omega
/-- The least of the numbers with a property. -/
theorem least_of {P : Nat → Prop} [DecidablePred P] : ∀ (n : Nat), P n → ∃ p, P p ∧ p ≤ n ∧ ∀ q, q < p → ¬ P q
  | n, h => by
    induction n using Nat.strongRecOn with
    | _ n ih =>
      by_cases c : ∃ q, q < n ∧ P q
      · obtain ⟨q, hq, hp⟩ := c
        obtain ⟨p, h1, h2, h3⟩ := ih q hq hp
        exact ⟨p, h1, by omega, h3⟩
      · exact ⟨n, h, Nat.le_refl _, fun q hq hp => c ⟨q, hq, hp⟩⟩
/-- Where the n-th round changes something, one comes, going back, into a loop. -/
theorem loop_there {n : Nat} {L : List Bn} (hn : Abt n L) {v : Nat} (hv : (rds L n rs0).l = some v) (h0 : 0 < n) :
    ∃ u p, stp L (rds L n rs0) n v = some u ∧ u < n ∧ 0 < p ∧ p ≤ n ∧ stp L (rds L n rs0) p u = some u ∧ (∀ q, 0 < q → q < p → stp L (rds L n rs0) q u ≠ some u) ∧ 0 < sumF L (rds L n rs0) p u := by
  obtain ⟨r, h, hr⟩ := rds_inv n 0 (inv_start L) v hv h0
  rw [Nat.zero_add] at h hr
  generalize rds L n rs0 = s at *
  have hch := fun i hi => chain (n := n) h i v (by omega) hi
  have hvn : v < n := by
    obtain ⟨i, b, _, h2, h3, _⟩ := h.yes v (by omega)
    have := (hn b (List.mem_of_getElem? h2)).2
    omega
  obtain ⟨i, j, hij, hj, he⟩ := pigeon (n := n) (fun i => (stp L s i v).getD 0) (fun i hi => by
    obtain ⟨u, hu, _⟩ := hch i hi
    simp only [hu, Option.getD_some]
    exact stp_lt hn i v u hvn hu)
  obtain ⟨a, ha, _⟩ := hch i (by omega)
  obtain ⟨b, hb, _⟩ := hch j hj
  simp only [ha, hb, Option.getD_some] at he
  subst he
  obtain ⟨u, hu, _⟩ := hch n (Nat.le_refl _)
  have hp : stp L s (j - i) a = some a := by
    have e : j = i + (j - i) := by omega
    rw [e, stp_add, ha] at hb
    exact hb
  have hu2 : stp L s (n - i) a = some u := by
    have e : n = i + (n - i) := by omega
    rw [e, stp_add, ha] at hu
    exact hu
  have hpu : stp L s (j - i) u = some u := by
    have e1 : stp L s ((j - i) + (n - i)) a = some u := by rw [stp_add, hp]; exact hu2
    rw [Nat.add_comm, stp_add, hu2] at e1
    exact e1
  obtain ⟨p, ⟨hp0, hpp⟩, hple, hmin⟩ := least_of (P := fun q => 0 < q ∧ stp L s q u = some u) (j - i) ⟨by omega, hpu⟩
  exact ⟨u, p, hu, stp_lt hn n v u hvn hu, hp0, by omega, hpp, fun q h1 h2 h3 => hmin q h2 ⟨h1, h3⟩, h.cyc p u hp0 hpp⟩
theorem stp_keeps {L : List Bn} {s : Rs} {y : Nat → Int} (hk : Kps L y) (hb : ∀ v b, prd L s v = some b → b.b = v ∧ b ∈ L) : ∀ (q v u : Nat), stp L s q v = some u → y u + sumF L s q v ≤ y v
  | 0, v, u, h => by
    simp only [stp, Option.some.injEq] at h
    subst h
    simp [sumF]
  | q + 1, v, u, h => by
    rw [stp] at h
    obtain ⟨b, hp, h⟩ := Option.bind_eq_some_iff.1 h
    have i1 := stp_keeps hk hb q b.a u h
    obtain ⟨e, hm⟩ := hb v b hp
    have := hk b hm
    rw [sumF, hp]
    simp only
    rw [← e]
    omega
/-- Where the n-th round changes something, no numbers keep the bounds. -/
theorem none_keep {n : Nat} {L : List Bn} (hn : Abt n L) {v : Nat} (hv : (rds L n rs0).l = some v) (h0 : 0 < n) (y : Nat → Int) : ¬ Kps L y := by
  intro hk
  obtain ⟨u, p, _, _, h1, _, h2, _, h3⟩ := loop_there hn hv h0
  obtain ⟨r, h, _⟩ := rds_inv n 0 (inv_start L) v hv h0
  have := stp_keeps hk (s := rds L n rs0) (fun v b hp => ⟨(inv_prd h hp).1, (prd_lt hn hp).2⟩) p u u h2
  omega
/-- Where some numbers keep the bounds, the rounds end, with the least ones from 0 on. -/
theorem rds_least {n : Nat} {L : List Bn} (hn : Abt n L) (h0 : 0 < n) {y : Nat → Int} (hk : Kps L y) : (rds L n rs0).l = none ∧ Kps L (rds L n rs0).x ∧ (∀ v, 0 ≤ (rds L n rs0).x v) ∧ ((∀ v, 0 ≤ y v) → ∀ v, (rds L n rs0).x v ≤ y v) := by
  have h1 : (rds L n rs0).l = none := by
    cases e : (rds L n rs0).l with
    | none => rfl
    | some v => exact absurd hk (none_keep hn e h0 y)
  exact ⟨h1, rds_kept h0 h1, rds_ge L n rs0, fun hy => rds_le hk (s := rs0) hy⟩

end Go.Proofs.YthnhcphkpffkfaaGreat

namespace Go.Proofs.YthnhcphkpffkfaaGreat

/-- The first n numbers, as a list. -/
def rowN {α : Type} (n : Nat) (g : Nat → α) : List α := (List.range n).map g
theorem rowN_len {α : Type} (n : Nat) (g : Nat → α) : (rowN n g).length = n := by simp [rowN]
theorem rowN_at {α : Type} {n : Nat} (g : Nat → α) {k : Nat} (h : k < n) : (rowN n g)[k]? = some (g k) := by simp [rowN, h]
theorem rowN_set {α : Type} {n : Nat} (g : Nat → α) (k : Nat) (v : α) : (rowN n g).set k v = rowN n (setN g k v) := by
  refine List.ext_getElem? fun i => ?_
  rw [List.getElem?_set]
  unfold rowN setN
  by_cases hi : i < n
  · by_cases c : k = i
    · subst c; simp [hi]
    · rw [if_neg c]
      have c' : ¬ i = k := fun e => c e.symm
      simp [hi, c']
  · by_cases c : k = i
    · subst c; simp [hi]
    · rw [if_neg c]; simp [hi]
theorem rowN_congr {α : Type} {n : Nat} {g h : Nat → α} (e : ∀ k, k < n → g k = h k) : rowN n g = rowN n h := by
  unfold rowN
  exact List.map_congr_left fun k hk => e k (List.mem_range.1 hk)
/-- By which bound a number was made, as a number. -/
def madI (m : Nat → Option Nat) (v : Nat) : Int := match m v with
  | some i => i
  | none => -1
theorem madI_set (m : Nat → Option Nat) (k i : Nat) : madI (setN m k (some i)) = setN (madI m) k (i : Int) := by
  funext v
  unfold madI setN
  split
  · next h => split at h <;> simp_all
  · next h => split at h <;> simp_all
/-- Fars that are not too far. -/
def Far (L : List Bn) : Prop := ∀ b ∈ L, -1048576 ≤ b.f ∧ b.f ≤ 1048576
theorem relax_bd {i : Nat} {b : Bn} {s : Rs} {M : Int} (hf : b.f ≤ 1048576) (h : ∀ v, s.x v ≤ M) : ∀ v, (relax i b s).x v ≤ M + 1048576 := by
  intro v
  have hv := h v
  have ha := h b.a
  unfold relax
  split
  · show setN _ _ _ _ ≤ _
    by_cases c : v = b.b
    · subst c; rw [setN_same]; omega
    · rw [setN_ne _ _ c]; omega
  · omega
theorem rnd_bd : ∀ {L : List Bn} {i : Nat} {s : Rs} {M : Int}, Far L → (∀ v, s.x v ≤ M) → ∀ v, (rnd L i s).x v ≤ M + L.length * 1048576
  | [], _, _, _, _, h, v => by have := h v; simpa [rnd] using this
  | b :: t, i, s, M, hf, h, v => by
    have := rnd_bd (L := t) (i := i + 1) (fun c hc => hf c (by simp [hc])) (relax_bd (i := i) (hf b (by simp)).2 h) v
    rw [rnd, List.length_cons]
    omega
theorem rds_bd {L : List Bn} (hf : Far L) : ∀ {k : Nat} {s : Rs} {M : Int}, (∀ v, s.x v ≤ M) → ∀ v, (rds L k s).x v ≤ M + k * (L.length * 1048576)
  | 0, _, _, h, v => by have := h v; simpa [rds] using this
  | k + 1, s, M, h, v => by
    have h1 : ∀ v, (rnd L 0 ⟨s.x, s.m, none⟩).x v ≤ M + L.length * 1048576 := rnd_bd hf h
    have e : ((k + 1 : Nat) : Int) * (L.length * 1048576) = L.length * 1048576 + k * (L.length * 1048576) := by
      rw [Int.natCast_add, Int.add_mul, Int.add_comm]
      simp
    have h0 : (0 : Int) ≤ k * (L.length * 1048576) := Int.mul_nonneg (by omega) (by omega)
    rw [rds, e]
    split
    · have := h1 v; omega
    · have := rds_bd hf (k := k) h1 v; omega
theorem rds_inv_any {L : List Bn} : ∀ (q k : Nat) {r : Nat → Nat} {s : Rs}, Inv L k L.length r s → ∃ k' r', Inv L k' L.length r' (rds L q s)
  | 0, k, r, s, h => ⟨k, r, h⟩
  | q + 1, k, r, s, h => by
    rw [rds]
    obtain ⟨r1, h1, _⟩ := rnd_inv (Nat.succ_pos k) L (by rw [List.drop_zero]) (inv_next h) (fun v hv => by cases hv)
    rw [Nat.zero_add] at h1
    split
    · exact ⟨_, _, h1⟩
    · exact rds_inv_any q (k + 1) h1
/-- Each number above 0 is held up by a bound that is kept just so. -/
theorem held {n : Nat} {L : List Bn} (hk : Kps L (rds L n rs0).x) {v : Nat} (hv : 0 < (rds L n rs0).x v) : ∃ (i : Nat) (b : Bn), L[i]? = some b ∧ b.b = v ∧ (rds L n rs0).x v = (rds L n rs0).x b.a + b.f := by
  obtain ⟨k, r, h⟩ := rds_inv_any n 0 (inv_start L)
  have hr : 0 < r v := by
    rcases Nat.eq_zero_or_pos (r v) with c | c
    · have := (h.no v c).2; omega
    · exact c
  obtain ⟨i, b, _, h2, h3, h4, _⟩ := h.yes v hr
  refine ⟨i, b, h2, h3, ?_⟩
  have := hk b (List.mem_of_getElem? h2)
  rw [h3] at this
  omega
/-- Bounds turned round. -/
def trn (L : List Bn) : List Bn := L.map fun b => ⟨b.b, b.a, b.f⟩
theorem trn_kps {L : List Bn} {y : Nat → Int} (c : Int) (h : Kps L y) : Kps (trn L) fun v => c - y v := by
  intro b hb
  unfold trn at hb
  obtain ⟨d, hd, rfl⟩ := List.mem_map.1 hb
  have := h d hd
  show c - y d.b + d.f ≤ c - y d.a
  omega
theorem trn_trn (L : List Bn) : trn (trn L) = L := by
  unfold trn
  rw [List.map_map]
  exact List.map_id'' (fun b => rfl) L
theorem trn_abt {n : Nat} {L : List Bn} (h : Abt n L) : Abt n (trn L) := by
  intro b hb
  unfold trn at hb
  obtain ⟨d, hd, rfl⟩ := List.mem_map.1 hb
  exact ⟨(h d hd).2, (h d hd).1⟩
theorem trn_far {L : List Bn} (h : Far L) : Far (trn L) := by
  intro b hb
  unfold trn at hb
  obtain ⟨d, hd, rfl⟩ := List.mem_map.1 hb
  exact h d hd
/-- Bounds have numbers that keep them just if those turned round have. -/
theorem trn_ok {n : Nat} {L : List Bn} (hn : Abt n L) (h0 : 0 < n) : (rds L n rs0).l = none ↔ (rds (trn L) n rs0).l = none := by
  constructor
  · intro h
    exact (rds_least (trn_abt hn) h0 (trn_kps 0 (rds_kept h0 h))).1
  · intro h
    have := trn_kps 0 (rds_kept (L := trn L) h0 h)
    rw [trn_trn] at this
    exact (rds_least hn h0 this).1
/-- The bounds of a way back, one behind the other. -/
def bck (L : List Bn) (s : Rs) : Nat → Nat → List Nat
  | 0, _ => []
  | q + 1, v => match s.m v with
    | some i => i :: (match L[i]? with
      | some b => bck L s q b.a
      | none => [])
    | none => []
theorem bck_cons {L : List Bn} {s : Rs} {v i : Nat} {b : Bn} (h1 : s.m v = some i) (h2 : L[i]? = some b) (q : Nat) : bck L s (q + 1) v = i :: bck L s q b.a := by
  rw [bck, h1]
  simp only [h2]
theorem prd_some {L : List Bn} {s : Rs} {v : Nat} {b : Bn} (h : prd L s v = some b) : ∃ i, s.m v = some i ∧ L[i]? = some b := by
  unfold prd at h
  obtain ⟨i, h1, h2⟩ := Option.bind_eq_some_iff.1 h
  exact ⟨i, h1, h2⟩
theorem bck_len {L : List Bn} {s : Rs} : ∀ (q v u : Nat), stp L s q v = some u → (bck L s q v).length = q
  | 0, _, _, _ => rfl
  | q + 1, v, u, h => by
    rw [stp] at h
    obtain ⟨b, hb, h⟩ := Option.bind_eq_some_iff.1 h
    obtain ⟨i, h1, h2⟩ := prd_some hb
    rw [bck_cons h1 h2, List.length_cons, bck_len q b.a u h]
/-- The t-th bound of the way back leads from the (t+1)-th number to the t-th. -/
theorem bck_at {L : List Bn} {s : Rs} (hs : ∀ v b, prd L s v = some b → b.b = v) : ∀ (q v u t : Nat), stp L s q v = some u → t < q → ∃ (i : Nat) (b : Bn), (bck L s q v)[t]? = some i ∧ L[i]? = some b ∧ stp L s t v = some b.b ∧ stp L s (t + 1) v = some b.a
  | 0, _, _, t, _, ht => absurd ht (Nat.not_lt_zero t)
  | q + 1, v, u, t, h, ht => by
    rw [stp] at h
    obtain ⟨b, hb, h⟩ := Option.bind_eq_some_iff.1 h
    obtain ⟨i, h1, h2⟩ := prd_some hb
    rw [bck_cons h1 h2]
    cases t with
    | zero =>
      refine ⟨i, b, rfl, h2, ?_, ?_⟩
      · rw [hs v b hb]; rfl
      · rw [stp, hb]; rfl
    | succ t =>
      obtain ⟨j, c, h3, h4, h5, h6⟩ := bck_at hs q b.a u t h (by omega)
      refine ⟨j, c, by simpa using h3, h4, ?_, ?_⟩
      · rw [stp, hb]; exact h5
      · rw [stp, hb]; exact h6
def sumI (L : List Bn) : List Nat → Int
  | [] => 0
  | i :: t => (match L[i]? with
    | some b => b.f
    | none => 0) + sumI L t
theorem bck_sum {L : List Bn} {s : Rs} : ∀ (q v u : Nat), stp L s q v = some u → sumI L (bck L s q v) = sumF L s q v
  | 0, _, _, _ => rfl
  | q + 1, v, u, h => by
    rw [stp] at h
    obtain ⟨b, hb, h⟩ := Option.bind_eq_some_iff.1 h
    obtain ⟨i, h1, h2⟩ := prd_some hb
    rw [bck_cons h1 h2, sumI, h2, bck_sum q b.a u h, sumF, hb]
/-- In a loop that is gone round once, each number is met once. -/
theorem stp_apart {L : List Bn} {s : Rs} {u p : Nat} (hp : stp L s p u = some u) (hm : ∀ q, 0 < q → q < p → stp L s q u ≠ some u) {i j : Nat} (hij : i < j) (hj : j < p) {v : Nat} (hi : stp L s i u = some v) : stp L s j u ≠ some v := by
  intro h
  have e1 : stp L s (p - j) v = some u := by
    have e : p = j + (p - j) := by omega
    rw [e, stp_add, h] at hp
    exact hp
  refine hm (i + (p - j)) (by omega) (by omega) ?_
  rw [stp_add, hi]
  exact e1

end Go.Proofs.YthnhcphkpffkfaaGreat
