/-
  Rounds that end as soon as all bounds in a row changed nothing: the same numbers.
-/
import Derived.Test.YthnhcphkpffkfaaGreatLP2
namespace Go.Proofs.YthnhcphkpffkfaaGreat

theorem rnd_app : ∀ (t u : List Bn) (i : Nat) (s : Rs), rnd (t ++ u) i s = rnd u (i + t.length) (rnd t i s)
  | [], u, i, s => rfl
  | b :: t, u, i, s => by
    show rnd (t ++ u) (i + 1) (relax i b s) = rnd u (i + (t.length + 1)) (rnd t (i + 1) (relax i b s))
    rw [rnd_app t u (i + 1), show i + 1 + t.length = i + (t.length + 1) by omega]
theorem rnd_take {L : List Bn} {i : Nat} (h : i < L.length) (s : Rs) : rnd (L.take (i + 1)) 0 s = relax i L[i] (rnd (L.take i) 0 s) := by
  rw [← List.take_append_getElem h, rnd_app]
  have e : 0 + (L.take i).length = i := by simp; omega
  rw [e]
  rfl
theorem rnd_kept : ∀ (L : List Bn) (i : Nat) (s : Rs), Kps L s.x → rnd L i s = s
  | [], _, _, _ => rfl
  | b :: t, i, s, h => by
    have hb := h b (by simp)
    have e : relax i b s = s := by unfold relax; rw [if_neg (by omega)]
    rw [rnd, e]
    exact rnd_kept t (i + 1) s fun c hc => h c (by simp [hc])
/-- Between the rounds. -/
structure Oi (L : List Bn) (n k : Nat) (s : Rs) (q : Nat) : Prop where
  kn : k ≤ n
  go : rds L n rs0 = rds L (n - k) s
  win : ∀ j b, L[j]? = some b → L.length ≤ j + q → s.x b.a + b.f ≤ s.x b.b
  qs : q < L.length ∨ L.length = 0
  em : L.length = 0 → s.l = none
  nz : ∀ v, 0 ≤ s.x v
  bd : ∀ v, s.x v ≤ (k : Int) * 4294967296
/-- Within a round that began with s: the first i bounds were looked at. -/
structure Qi (L : List Bn) (n k : Nat) (s c : Rs) (i q : Nat) (pl : Option Nat) : Prop where
  kn : k < n
  hi : i ≤ L.length
  go : rds L n rs0 = rds L (n - k) s
  cu : c = rnd (L.take i) 0 ⟨s.x, s.m, none⟩
  pl : pl = if c.l = none then s.l else c.l
  qs : q < L.length ∨ L.length = 0
  em : L.length = 0 → s.l = none
  win : ∀ j b, L[j]? = some b → (j < i ∧ i ≤ j + q) ∨ i + L.length ≤ j + q → c.x b.a + b.f ≤ c.x b.b
  un : c.l = none → i ≤ q
  ch : c.l ≠ none → q < i
  nz : ∀ v, 0 ≤ c.x v
  bd : ∀ v, c.x v ≤ (k : Int) * 4294967296 + i * 1048576
theorem oi_start {L : List Bn} (n : Nat) : Oi L n 0 rs0 0 :=
  ⟨Nat.zero_le _, rfl, fun j b hb h => by have := (List.getElem?_eq_some_iff.1 hb).1; omega, by omega, fun _ => rfl, fun _ => Int.le_refl _, fun _ => by simp [rs0]⟩
theorem qi_start {L : List Bn} {n k : Nat} {s : Rs} {q : Nat} (h : Oi L n k s q) (hk : k < n) : Qi L n k s ⟨s.x, s.m, none⟩ 0 q s.l :=
  ⟨hk, Nat.zero_le _, h.go, rfl, by simp, h.qs, h.em, fun j b hb hj => h.win j b hb (by omega), fun _ => Nat.zero_le _, fun e => absurd rfl e, h.nz, fun v => by have := h.bd v; simp only; omega⟩
theorem qi_change {L : List Bn} {n k : Nat} {s c : Rs} {i q : Nat} {pl : Option Nat} (h : Qi L n k s c i q pl) (hi : i < L.length) (hf : Far L) (hc : c.x L[i].b < c.x L[i].a + L[i].f) :
    Qi L n k s ⟨setN c.x L[i].b (c.x L[i].a + L[i].f), setN c.m L[i].b (some i), some L[i].b⟩ (i + 1) 0 (some L[i].b) := by
  have e : relax i L[i] c = ⟨setN c.x L[i].b (c.x L[i].a + L[i].f), setN c.m L[i].b (some i), some L[i].b⟩ := by unfold relax; rw [if_pos hc]
  have hf' := hf L[i] (List.getElem_mem hi)
  have hn := h.nz L[i].b
  refine ⟨h.kn, hi, h.go, ?_, by simp, by omega, h.em, fun j b hb hj => by have := (List.getElem?_eq_some_iff.1 hb).1; omega, fun x => (by cases x), fun _ => Nat.succ_pos i, fun v => ?_, fun v => ?_⟩
  · rw [rnd_take hi, ← h.cu, e]
  · show 0 ≤ setN _ _ _ _
    by_cases cv : v = L[i].b
    · rw [cv, setN_same]; omega
    · rw [setN_ne _ _ cv]; exact h.nz v
  · show setN _ _ _ _ ≤ _
    by_cases cv : v = L[i].b
    · rw [cv, setN_same]
      have := h.bd L[i].a
      omega
    · rw [setN_ne _ _ cv]
      have := h.bd v
      omega
theorem qi_same {L : List Bn} {n k : Nat} {s c : Rs} {i q : Nat} {pl : Option Nat} (h : Qi L n k s c i q pl) (hi : i < L.length) (hc : ¬ c.x L[i].b < c.x L[i].a + L[i].f) (hq : q + 1 ≠ L.length) : Qi L n k s c (i + 1) (q + 1) pl := by
  have e : relax i L[i] c = c := by unfold relax; rw [if_neg hc]
  have hqs := h.qs
  refine ⟨h.kn, hi, h.go, ?_, h.pl, by omega, h.em, fun j b hb hj => ?_, fun x => ?_, fun x => ?_, h.nz, fun v => ?_⟩
  · rw [rnd_take hi, ← h.cu, e]
  · by_cases cj : j = i
    · subst cj
      rw [List.getElem?_eq_getElem hi] at hb
      injection hb with hb
      subst hb
      omega
    · exact h.win j b hb (by omega)
  · have := h.un x; omega
  · have := h.ch x; omega
  · have := h.bd v; omega
theorem qi_stop {L : List Bn} {n k : Nat} {s c : Rs} {i q : Nat} {pl : Option Nat} (h : Qi L n k s c i q pl) (hi : i < L.length) (hc : ¬ c.x L[i].b < c.x L[i].a + L[i].f) (hq : q + 1 = L.length) : rds L n rs0 = c ∧ c.l = none := by
  have hl : c.l = none := by
    cases e : c.l with
    | none => rfl
    | some v =>
      have := h.ch (by rw [e]; simp)
      omega
  have hcu : c = ⟨s.x, s.m, none⟩ := by
    have := (rnd_none (L := L.take i) (i := 0) (s := ⟨s.x, s.m, none⟩) (by rw [← h.cu]; exact hl)).1
    rw [h.cu, this]
  have hk : Kps L c.x := by
    intro b hb
    obtain ⟨j, hj⟩ := List.mem_iff_getElem?.1 hb
    have hjl := (List.getElem?_eq_some_iff.1 hj).1
    by_cases cj : j = i
    · subst cj
      rw [List.getElem?_eq_getElem hi] at hj
      injection hj with hj
      subst hj
      omega
    · have := h.un hl
      exact h.win j b hj (by omega)
  refine ⟨?_, hl⟩
  have hkn := h.kn
  obtain ⟨m, hm⟩ : ∃ m, n - k = m + 1 := ⟨n - k - 1, by omega⟩
  rw [h.go, hm, rds, ← hcu, rnd_kept L 0 c hk, if_pos hl]
theorem qi_end {L : List Bn} {n k : Nat} {s c : Rs} {q : Nat} {pl : Option Nat} (h : Qi L n k s c L.length q pl) (hl : L.length ≤ 4096) : Oi L n (k + 1) c q ∧ pl = c.l := by
  have hkn := h.kn
  have hcu := h.cu
  rw [List.take_length] at hcu
  obtain ⟨m, hm⟩ : ∃ m, n - k = m + 1 := ⟨n - k - 1, by omega⟩
  have hm' : n - (k + 1) = m := by omega
  have hbd : ∀ v, c.x v ≤ ((k + 1 : Nat) : Int) * 4294967296 := fun v => by have := h.bd v; omega
  by_cases h0 : L.length = 0
  · obtain rfl : L = [] := List.length_eq_zero_iff.1 h0
    have hs := h.em rfl
    rw [rnd] at hcu
    have hcl : c.l = none := by rw [hcu]
    refine ⟨⟨hkn, ?_, fun j b hb _ => h.win j b hb (by simp at hb), .inr rfl, fun _ => hcl, h.nz, hbd⟩, ?_⟩
    · rw [h.go, hm, hm', rds, rnd, ← hcu, if_pos hcl]
      cases m with
      | zero => rfl
      | succ m =>
        have e : (⟨c.x, c.m, none⟩ : Rs) = c := by rw [← hcl]
        rw [rds, rnd, e, if_pos hcl]
    · rw [h.pl, if_pos hcl, hs, hcl]
  · have hq : q < L.length := by have := h.qs; omega
    have hcl : c.l ≠ none := fun e => by have := h.un e; omega
    refine ⟨⟨hkn, ?_, fun j b hb hj => h.win j b hb (.inl ⟨(List.getElem?_eq_some_iff.1 hb).1, hj⟩), .inl hq, fun e => absurd e h0, h.nz, hbd⟩, ?_⟩
    · rw [h.go, hm, hm', rds, ← hcu, if_neg hcl]
    · rw [h.pl, if_neg hcl]
theorem oi_end {L : List Bn} {n : Nat} {s : Rs} {q : Nat} (h : Oi L n n s q) : rds L n rs0 = s := by
  rw [h.go, Nat.sub_self, rds]

/-- The document's rounds. -/
structure Di (L : List Bn) (n k : Nat) (s : Rs) : Prop where
  kn : k ≤ n
  go : rds L n rs0 = rds L (n - k) s
  nz : ∀ v, 0 ≤ s.x v
  bd : ∀ v, s.x v ≤ (k : Int) * 4294967296
structure Ei (L : List Bn) (n k : Nat) (s c : Rs) (i : Nat) : Prop where
  hi : i ≤ L.length
  cu : c = rnd (L.take i) 0 ⟨s.x, s.m, none⟩
  nz : ∀ v, 0 ≤ c.x v
  bd : ∀ v, c.x v ≤ (k : Int) * 4294967296 + i * 1048576
theorem di_start {L : List Bn} (n : Nat) : Di L n 0 rs0 := ⟨Nat.zero_le _, rfl, fun _ => Int.le_refl _, fun _ => by simp [rs0]⟩
theorem ei_start {L : List Bn} {n k : Nat} {s : Rs} (h : Di L n k s) : Ei L n k s ⟨s.x, s.m, none⟩ 0 := ⟨Nat.zero_le _, rfl, h.nz, fun v => by have := h.bd v; simp only; omega⟩
theorem ei_change {L : List Bn} {n k : Nat} {s c : Rs} {i : Nat} (h : Ei L n k s c i) (hi : i < L.length) (hf : Far L) (hc : c.x L[i].b < c.x L[i].a + L[i].f) :
    Ei L n k s ⟨setN c.x L[i].b (c.x L[i].a + L[i].f), setN c.m L[i].b (some i), some L[i].b⟩ (i + 1) := by
  have e : relax i L[i] c = ⟨setN c.x L[i].b (c.x L[i].a + L[i].f), setN c.m L[i].b (some i), some L[i].b⟩ := by unfold relax; rw [if_pos hc]
  have hf' := hf L[i] (List.getElem_mem hi)
  have hn := h.nz L[i].b
  refine ⟨hi, ?_, fun v => ?_, fun v => ?_⟩
  · rw [rnd_take hi, ← h.cu, e]
  · show 0 ≤ setN _ _ _ _
    by_cases cv : v = L[i].b
    · rw [cv, setN_same]; omega
    · rw [setN_ne _ _ cv]; exact h.nz v
  · show setN _ _ _ _ ≤ _
    by_cases cv : v = L[i].b
    · rw [cv, setN_same]
      have := h.bd L[i].a
      omega
    · rw [setN_ne _ _ cv]
      have := h.bd v
      omega
theorem ei_same {L : List Bn} {n k : Nat} {s c : Rs} {i : Nat} (h : Ei L n k s c i) (hi : i < L.length) (hc : ¬ c.x L[i].b < c.x L[i].a + L[i].f) : Ei L n k s c (i + 1) := by
  have e : relax i L[i] c = c := by unfold relax; rw [if_neg hc]
  refine ⟨hi, ?_, h.nz, fun v => ?_⟩
  · rw [rnd_take hi, ← h.cu, e]
  · have := h.bd v; omega
theorem ei_stop {L : List Bn} {n k : Nat} {s c : Rs} (d : Di L n k s) (hk : k < n) (h : Ei L n k s c L.length) (hl : c.l = none) : rds L n rs0 = c := by
  have hcu := h.cu
  rw [List.take_length] at hcu
  obtain ⟨m, hm⟩ : ∃ m, n - k = m + 1 := ⟨n - k - 1, by omega⟩
  rw [d.go, hm, rds, ← hcu, if_pos hl]
theorem ei_next {L : List Bn} {n k : Nat} {s c : Rs} (d : Di L n k s) (hk : k < n) (h : Ei L n k s c L.length) (hl : c.l ≠ none) (hL : L.length ≤ 4096) : Di L n (k + 1) c := by
  have hcu := h.cu
  rw [List.take_length] at hcu
  obtain ⟨m, hm⟩ : ∃ m, n - k = m + 1 := ⟨n - k - 1, by omega⟩
  refine ⟨hk, ?_, h.nz, fun v => by have := h.bd v; omega⟩
  rw [d.go, hm, show n - (k + 1) = m by omega, rds, ← hcu, if_neg hl]
theorem di_end {L : List Bn} {n : Nat} {s : Rs} (h : Di L n n s) : rds L n rs0 = s := by
  rw [h.go, Nat.sub_self, rds]
def lasI : Option Nat → Int
  | none => -1
  | some v => v

end Go.Proofs.YthnhcphkpffkfaaGreat
