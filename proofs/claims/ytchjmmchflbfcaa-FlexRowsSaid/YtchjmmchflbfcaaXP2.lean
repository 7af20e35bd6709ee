/-
  Tracks that share a room: what the rounds keep, and that they are fair.
-/
import Derived.Test.YtchjmmchflbfcaaXP
namespace Go.Proofs.Ytchjmmchflbfcaa

def sumO : List Ce → Int
  | [] => 0
  | c :: l => c.o + sumO l
/-- What holds of one cell, where left is shared by wishes that sum up to g. -/
def CeK (left g : Int) (c : Ce) : Prop := okT c.t ∧ (c.p = true → 0 < c.t.gr ∧ c.o = c.t.mn) ∧ (c.p = false → (c.t.gr = 0 ∧ c.o = c.t.mn) ∨ (0 < c.t.gr ∧ c.t.mx ≠ 0 ∧ c.o = c.t.mx ∧ lak c.t * g ≤ left * c.t.gr))
def ShI (left : Int) (l : List Ce) : Prop := 0 ≤ left ∧ ∀ c ∈ l, CeK left (gsum l) c
theorem ShI.gro {left : Int} {l : List Ce} (h : ShI left l) : Gro l := fun c hc => by
  obtain ⟨⟨_, _, _, h4, _⟩, h2, _⟩ := h.2 c hc
  exact ⟨h4, fun hp => (h2 hp).1⟩
theorem lak_of {t : Tk} (h : 0 ≤ lak t) : t.mx ≠ 0 ∧ lak t = t.mx - t.mn := by
  unfold lak at h ⊢
  split at h
  · omega
  · next hc => exact ⟨hc, by rw [if_neg hc]⟩
theorem sum_fil (left g : Int) : ∀ {l : List Ce}, (∀ c ∈ l, c.p = true → c.o = c.t.mn) → sumO (l.map (fil left g)) = sumO l + lesS left g l
  | [], _ => rfl
  | c :: l, h => by
    have ih := sum_fil left g (l := l) fun d hd => h d (by simp [hd])
    rw [List.map_cons, sumO, sumO, lesS, ih]
    by_cases hf : fulB left g c = true
    · have hf2 := hf
      unfold fulB at hf2
      simp only [Bool.and_eq_true, decide_eq_true_eq] at hf2
      have h1 := h c (by simp) hf2.1
      have h2 := (lak_of hf2.2.1).2
      have e : (fil left g c).o = c.t.mx := by unfold fil; rw [if_pos hf]
      rw [e, if_pos hf]
      omega
    · have e : fil left g c = c := by unfold fil; rw [if_neg hf]
      rw [e, if_neg hf]
      omega
theorem mul_le_of {a b g : Int} (hg : 0 < g) (h : a * g ≤ b * g) : a ≤ b := Int.le_of_mul_le_mul_right h hg
/-- A round that fills some keeps it. -/
theorem ShI.fil {left : Int} {l : List Ce} (h : ShI left l) (hp : 0 < gsum l) : ShI (left - lesS left (gsum l) l) (l.map (fil left (gsum l))) := by
  have hl := left_nn h.gro h.1 hp
  have hr := rat_up (left := left) h.gro
  have hn := gsum_nn (gro_fil h.gro left (gsum l))
  refine ⟨hl, fun c hc => ?_⟩
  obtain ⟨d, hd, rfl⟩ := List.mem_map.1 hc
  have hk := h.2 d hd
  have key : lak d.t * gsum l ≤ left * d.t.gr → lak d.t * gsum (l.map (Go.Proofs.Ytchjmmchflbfcaa.fil left (gsum l))) ≤ (left - lesS left (gsum l) l) * d.t.gr := by
    intro h1
    refine mul_le_of hp ?_
    have a1 : lak d.t * gsum l * gsum (l.map (Go.Proofs.Ytchjmmchflbfcaa.fil left (gsum l))) ≤ left * d.t.gr * gsum (l.map (Go.Proofs.Ytchjmmchflbfcaa.fil left (gsum l))) := Int.mul_le_mul_of_nonneg_right h1 hn
    have a2 : left * gsum (l.map (Go.Proofs.Ytchjmmchflbfcaa.fil left (gsum l))) * d.t.gr ≤ (left - lesS left (gsum l) l) * gsum l * d.t.gr := Int.mul_le_mul_of_nonneg_right hr hk.1.2.2.2.1
    have e1 : lak d.t * gsum l * gsum (l.map (Go.Proofs.Ytchjmmchflbfcaa.fil left (gsum l))) = lak d.t * gsum (l.map (Go.Proofs.Ytchjmmchflbfcaa.fil left (gsum l))) * gsum l := Int.mul_right_comm _ _ _
    have e2 : left * d.t.gr * gsum (l.map (Go.Proofs.Ytchjmmchflbfcaa.fil left (gsum l))) = left * gsum (l.map (Go.Proofs.Ytchjmmchflbfcaa.fil left (gsum l))) * d.t.gr := Int.mul_right_comm _ _ _
    have e3 : (left - lesS left (gsum l) l) * gsum l * d.t.gr = (left - lesS left (gsum l) l) * d.t.gr * gsum l := Int.mul_right_comm _ _ _
    rw [← e1, ← e3]
    rw [e2] at a1
    exact Int.le_trans a1 a2
  by_cases hf : fulB left (gsum l) d = true
  · have e : Go.Proofs.Ytchjmmchflbfcaa.fil left (gsum l) d = ⟨d.t, false, d.t.mx⟩ := by unfold Go.Proofs.Ytchjmmchflbfcaa.fil; rw [if_pos hf]
    rw [e]
    have hf2 := hf
    unfold fulB at hf2
    simp only [Bool.and_eq_true, decide_eq_true_eq] at hf2
    obtain ⟨k1, k2, k3⟩ := hf2
    exact ⟨hk.1, (fun h => by cases h), fun _ => .inr ⟨(hk.2.1 k1).1, (lak_of k2).1, rfl, key (by rw [Int.mul_comm]; exact k3)⟩⟩
  · have e : Go.Proofs.Ytchjmmchflbfcaa.fil left (gsum l) d = d := by unfold Go.Proofs.Ytchjmmchflbfcaa.fil; rw [if_neg hf]
    rw [e]
    refine ⟨hk.1, hk.2.1, fun hpf => ?_⟩
    rcases hk.2.2 hpf with h1 | ⟨h1, h2, h3, h4⟩
    · exact .inl h1
    · exact .inr ⟨h1, h2, h3, key h4⟩
theorem spr_mem {left g : Int} : ∀ {l : List Ce} {ov : Int} {c : Ce}, c ∈ sprd left g ov l → ∃ d ∈ l, c.t = d.t ∧ c.p = d.p ∧ ((d.p = true ∧ ∃ e : Int, 0 ≤ e ∧ e ≤ 1 ∧ c.o = d.o + (left * d.t.gr) / g + e) ∨ (d.p = false ∧ c = d))
  | [], _, _, h => by simp [sprd] at h
  | a :: l, ov, c, h => by
    rw [sprd] at h
    split at h
    · next hp =>
      rcases List.mem_cons.1 h with rfl | h
      · refine ⟨a, by simp, rfl, rfl, .inl ⟨hp, _, ?_, ?_, rfl⟩⟩ <;> split <;> omega
      · obtain ⟨d, hd, k⟩ := spr_mem h
        exact ⟨d, by simp [hd], k⟩
    · next hp =>
      rcases List.mem_cons.1 h with rfl | h
      · exact ⟨c, by simp, rfl, rfl, .inr ⟨by simpa using hp, rfl⟩⟩
      · obtain ⟨d, hd, k⟩ := spr_mem h
        exact ⟨d, by simp [hd], k⟩
theorem spr_sum0 {left g : Int} : ∀ {l : List Ce} {ov : Int}, ov ≤ 0 → sumO (sprd left g ov l) = sumO l + flrS left g l
  | [], _, _ => rfl
  | a :: l, ov, h => by
    rw [sprd, sumO, flrS]
    split
    · have := spr_sum0 (left := left) (g := g) (l := l) (ov := ov - 1) (by omega)
      rw [sumO, this]
      have : ¬ 0 < ov := by omega
      simp only [if_neg this]
      omega
    · have := spr_sum0 (left := left) (g := g) (l := l) h
      rw [sumO, this]
      omega
theorem spr_sum {left g : Int} : ∀ {l : List Ce} {ov : Int}, 0 ≤ ov → ov ≤ cntP l → sumO (sprd left g ov l) = sumO l + flrS left g l + ov
  | [], ov, h1, h2 => by
    simp [cntP] at h2
    simp [sprd, sumO, flrS]
    omega
  | a :: l, ov, h1, h2 => by
    rw [sprd, sumO, flrS]
    rw [cntP] at h2
    split
    · next hp =>
      rw [if_pos hp] at h2
      by_cases c : 0 < ov
      · have := spr_sum (left := left) (g := g) (l := l) (ov := ov - 1) (by omega) (by omega)
        rw [sumO, this]
        simp only [if_pos c]
        omega
      · have := spr_sum0 (left := left) (g := g) (l := l) (ov := ov - 1) (by omega)
        rw [sumO, this]
        simp only [if_neg c]
        omega
    · next hp =>
      rw [if_neg hp] at h2
      have := spr_sum (left := left) (g := g) (l := l) h1 (by omega)
      rw [sumO, this]
      omega
theorem flr_lo {left g : Int} (hg : 0 < g) : ∀ l : List Ce, flrS left g l * g ≤ left * gsum l
  | [] => by simp [flrS, gsum]
  | a :: l => by
    have ih := flr_lo (left := left) hg l
    rw [flrS, gsum, Int.add_mul, Int.mul_add]
    split
    · have := Int.ediv_mul_le (left * a.t.gr) (Int.ne_of_gt hg)
      omega
    · simp
      exact ih
theorem flr_hi {left g : Int} (hg : 0 < g) : ∀ l : List Ce, left * gsum l ≤ (flrS left g l + cntP l) * g
  | [] => by simp [flrS, gsum, cntP]
  | a :: l => by
    have ih := flr_hi (left := left) hg l
    rw [flrS, gsum, cntP, Int.mul_add]
    rw [Int.add_mul] at ih
    split
    · have h1 := Int.lt_ediv_add_one_mul_self (left * a.t.gr) hg
      rw [Int.add_mul] at h1
      have e : ((left * a.t.gr) / g + flrS left g l + ((1 + cntP l : Nat) : Int)) * g = (left * a.t.gr) / g * g + flrS left g l * g + (g + (cntP l : Int) * g) := by
        rw [Int.add_mul, Int.add_mul, Int.natCast_add, Int.add_mul, Int.natCast_one, Int.one_mul]
      rw [e]
      omega
    · simp
      rw [Int.add_mul]
      exact ih
theorem over_in {left : Int} {l : List Ce} (hg : 0 < gsum l) : 0 ≤ left - flrS left (gsum l) l ∧ left - flrS left (gsum l) l ≤ cntP l := by
  have h1 := mul_le_of hg (flr_lo (left := left) hg l)
  have h2 := mul_le_of hg (flr_hi (left := left) hg l)
  omega

/-- What sharing keeps: T the sum that there is to be. -/
structure Fair (T : Int) (l R : List Ce) : Prop where
  tk : R.map (·.t) = l.map (·.t)
  lo : ∀ c ∈ R, c.t.mn ≤ c.o ∧ (c.t.mn < c.o → 0 < c.t.gr) ∧ (c.t.mn < c.o → c.t.mx ≠ 0 → c.o ≤ c.t.mx)
  fr : ∀ c ∈ R, ∀ d ∈ R, c.t.mn < c.o → 0 < d.t.gr → (d.t.mx = 0 ∨ d.o < d.t.mx) → (c.o - c.t.mn - 1) * d.t.gr < (d.o - d.t.mn + 1) * c.t.gr
  sm : sumO R = T ∨ (sumO R ≤ T ∧ ∀ c ∈ R, (c.t.gr = 0 ∧ c.o = c.t.mn) ∨ (0 < c.t.gr ∧ c.t.mx ≠ 0 ∧ c.o = c.t.mx))
theorem spr_tk {left g : Int} : ∀ (l : List Ce) (ov : Int), (sprd left g ov l).map (·.t) = l.map (·.t)
  | [], _ => rfl
  | a :: l, ov => by
    rw [sprd]
    split
    · rw [List.map_cons, List.map_cons, spr_tk l]
    · rw [List.map_cons, List.map_cons, spr_tk l]
theorem fil_tk {left g : Int} (l : List Ce) : (l.map (fil left g)).map (·.t) = l.map (·.t) := by
  rw [List.map_map]
  refine List.map_congr_left fun c _ => ?_
  show (fil left g c).t = c.t
  unfold fil
  split <;> rfl
theorem gsum_pos : ∀ {l : List Ce}, Gro l → ∀ c ∈ l, c.p = true → 0 < gsum l
  | [], _, _, h, _ => by cases h
  | a :: l, hg, c, h, hp => by
    have h0 := gsum_nn (l := l) fun d hd => hg d (by simp [hd])
    have ha := hg a (by simp)
    rw [gsum]
    rcases List.mem_cons.1 h with rfl | h
    · rw [if_pos hp]
      have := ha.2 hp
      omega
    · have := gsum_pos (l := l) (fun d hd => hg d (by simp [hd])) c h hp
      split <;> omega
theorem fair_none {left : Int} {l : List Ce} (h : ShI left l) (h0 : gsum l = 0) : Fair (sumO l + left) l l := by
  have hno : ∀ c ∈ l, c.p = false := fun c hc => by
    cases e : c.p with
    | false => rfl
    | true => have := gsum_pos h.gro c hc e; omega
  have hk : ∀ c ∈ l, (c.t.gr = 0 ∧ c.o = c.t.mn) ∨ (0 < c.t.gr ∧ c.t.mx ≠ 0 ∧ c.o = c.t.mx) := fun c hc => by
    rcases (h.2 c hc).2.2 (hno c hc) with k | ⟨k1, k2, k3, _⟩
    · exact .inl k
    · exact .inr ⟨k1, k2, k3⟩
  refine ⟨rfl, fun c hc => ?_, fun c hc d hd h1 h2 h3 => ?_, .inr ⟨by have := h.1; omega, hk⟩⟩
  · obtain ⟨_, _, o3, _, _⟩ := (h.2 c hc).1
    rcases hk c hc with ⟨k1, k2⟩ | ⟨k1, k2, k3⟩
    · refine ⟨by omega, fun h => by omega, fun h => by omega⟩
    · refine ⟨by omega, fun _ => k1, fun _ _ => by omega⟩
  · exfalso
    rcases hk d hd with ⟨k1, k2⟩ | ⟨k1, k2, k3⟩ <;> omega
theorem fair_last {left : Int} {l : List Ce} (h : ShI left l) (h0 : 0 < gsum l) (hn : ¬ l.any (fulB left (gsum l)) = true) : Fair (sumO l + left) l (sprd left (gsum l) (left - flrS left (gsum l) l) l) := by
  have hnf : ∀ d ∈ l, ¬ fulB left (gsum l) d = true := fun d hd hc => hn (List.any_eq_true.2 ⟨d, hd, hc⟩)
  generalize hg : gsum l = g at *
  -- of each: what it has beyond its least
  have hc : ∀ ov, ∀ c ∈ sprd left g ov l, okT c.t ∧ ((c.t.gr = 0 ∧ c.o = c.t.mn) ∨ (0 < c.t.gr ∧ c.t.mx ≠ 0 ∧ c.o = c.t.mx ∧ lak c.t * g ≤ left * c.t.gr) ∨ (0 < c.t.gr ∧ c.t.mn ≤ c.o ∧ (c.t.mx ≠ 0 → c.o ≤ c.t.mx) ∧ (c.o - c.t.mn - 1) * g ≤ left * c.t.gr ∧ left * c.t.gr < (c.o - c.t.mn + 1) * g)) := by
    intro ov c hm
    obtain ⟨d, hd, e1, e2, k⟩ := spr_mem hm
    have hk := h.2 d hd
    rw [hg] at hk
    refine ⟨by rw [e1]; exact hk.1, ?_⟩
    rcases k with ⟨hp, e, g1, g2, ho⟩ | ⟨hp, rfl⟩
    · obtain ⟨q1, q2⟩ := hk.2.1 hp
      have hl := h.1
      have p0 : 0 ≤ left * d.t.gr := Int.mul_nonneg hl (by omega)
      have d1 := Int.ediv_mul_le (left * d.t.gr) (Int.ne_of_gt h0)
      have d2 := Int.lt_ediv_add_one_mul_self (left * d.t.gr) h0
      have d3 : 0 ≤ (left * d.t.gr) / g := Int.ediv_nonneg p0 (by omega)
      generalize hq : (left * d.t.gr) / g = q at *
      rw [e1, ho, q2]
      refine .inr (.inr ⟨q1, by omega, fun hmx => ?_, ?_, ?_⟩)
      · have hl2 : lak d.t = d.t.mx - d.t.mn := by unfold lak; rw [if_neg hmx]
        obtain ⟨_, _, o3, _, _⟩ := hk.1
        have nf := hnf d hd
        unfold fulB at nf
        simp only [hp, Bool.true_and, Bool.and_eq_true, decide_eq_true_eq] at nf
        have n1 : 0 ≤ lak d.t := by omega
        have n2 : left * d.t.gr < g * lak d.t := by
          by_cases c : g * lak d.t ≤ left * d.t.gr
          · exact absurd ⟨n1, c⟩ nf
          · omega
        have n3 : q * g < lak d.t * g := by rw [Int.mul_comm (lak d.t)]; omega
        have n4 : q < lak d.t := Int.lt_of_mul_lt_mul_right n3 (by omega)
        omega
      · have : (d.t.mn + q + e - d.t.mn - 1) * g ≤ q * g := Int.mul_le_mul_of_nonneg_right (by omega) (by omega)
        omega
      · have : (q + 1) * g ≤ (d.t.mn + q + e - d.t.mn + 1) * g := Int.mul_le_mul_of_nonneg_right (by omega) (by omega)
        omega
    · rcases hk.2.2 hp with k1 | k1
      · exact .inl k1
      · exact .inr (.inl k1)
  refine ⟨spr_tk _ _, fun c hm => ?_, fun c hm d hm' h1 h2 h3 => ?_, .inl ?_⟩
  · obtain ⟨⟨_, _, o3, _, _⟩, k⟩ := hc _ c hm
    rcases k with ⟨k1, k2⟩ | ⟨k1, k2, k3, _⟩ | ⟨k1, k2, k3, _, _⟩
    · exact ⟨by omega, fun h => by omega, fun h => by omega⟩
    · exact ⟨by omega, fun _ => k1, fun _ _ => by omega⟩
    · exact ⟨k2, fun _ => k1, fun _ hx => k3 hx⟩
  · -- one that has more than its least, one that may have more
    have a1 : 0 < c.t.gr ∧ (c.o - c.t.mn - 1) * g ≤ left * c.t.gr := by
      rcases (hc _ c hm).2 with ⟨k1, k2⟩ | ⟨k1, k2, k3, k4⟩ | ⟨k1, _, _, k4, _⟩
      · omega
      · have hl2 : lak c.t = c.t.mx - c.t.mn := by unfold lak; rw [if_neg k2]
        have : (c.o - c.t.mn - 1) * g ≤ lak c.t * g := Int.mul_le_mul_of_nonneg_right (by omega) (by omega)
        exact ⟨k1, by omega⟩
      · exact ⟨k1, k4⟩
    have a2 : left * d.t.gr < (d.o - d.t.mn + 1) * g := by
      rcases (hc _ d hm').2 with ⟨k1, k2⟩ | ⟨k1, k2, k3, k4⟩ | ⟨_, _, _, _, k5⟩
      · omega
      · omega
      · exact k5
    have b1 : (c.o - c.t.mn - 1) * g * d.t.gr ≤ left * c.t.gr * d.t.gr := Int.mul_le_mul_of_nonneg_right a1.2 (by omega)
    have b2 : left * d.t.gr * c.t.gr < (d.o - d.t.mn + 1) * g * c.t.gr := Int.mul_lt_mul_of_pos_right a2 a1.1
    have e1 : left * c.t.gr * d.t.gr = left * d.t.gr * c.t.gr := Int.mul_right_comm _ _ _
    have e2 : (c.o - c.t.mn - 1) * g * d.t.gr = (c.o - c.t.mn - 1) * d.t.gr * g := Int.mul_right_comm _ _ _
    have e3 : (d.o - d.t.mn + 1) * g * c.t.gr = (d.o - d.t.mn + 1) * c.t.gr * g := Int.mul_right_comm _ _ _
    refine Int.lt_of_mul_lt_mul_right (a := g) ?_ (by omega)
    rw [← e2, ← e3]
    omega
  · have := over_in (left := left) (l := l) (by omega)
    rw [hg] at this
    rw [spr_sum this.1 this.2]
    omega
/-- The rounds share fairly. -/
theorem shr_fair : ∀ {k : Nat} {left : Int} {l : List Ce}, ShI left l → cntP l < k → Fair (sumO l + left) l (shr k left l)
  | 0, _, _, _, h => absurd h (Nat.not_lt_zero _)
  | k + 1, left, l, h, hk => by
    rw [shr]
    split
    · next h0 => exact fair_none h h0
    · next h0 =>
      have hp : 0 < gsum l := by have := gsum_nn h.gro; omega
      split
      · next ha =>
        have h1 := cnt_lt left (gsum l) l ha
        have ih := shr_fair (h.fil hp) (k := k) (by omega)
        have hs := sum_fil left (gsum l) (l := l) fun c hc hpc => ((h.2 c hc).2.1 hpc).2
        rw [hs, show sumO l + lesS left (gsum l) l + (left - lesS left (gsum l) l) = sumO l + left by omega] at ih
        exact ⟨ih.tk.trans (fil_tk l), ih.lo, ih.fr, ih.sm⟩
      · next hn => exact fair_last h hp hn

end Go.Proofs.Ytchjmmchflbfcaa
