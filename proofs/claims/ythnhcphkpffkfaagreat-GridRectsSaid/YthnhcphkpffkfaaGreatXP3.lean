/-
  Shares in plain lists.
-/
import Derived.Below
namespace Go.Proofs.YthnhcphkpffkfaaGreat

structure Tk where
  mn : Int
  mx : Int
  gr : Int
def okT (t : Tk) : Prop := 0 ≤ t.mn ∧ t.mn ≤ 16384 ∧ (t.mx = 0 ∨ t.mn ≤ t.mx ∧ t.mx ≤ 16384) ∧ 0 ≤ t.gr ∧ t.gr ≤ 16384
/-- What a track lacks; -1: any. -/
def lak (t : Tk) : Int := if t.mx = 0 then -1 else t.mx - t.mn
/-- A track that shares: does it take part still, and what it has. -/
structure Ce where
  t : Tk
  p : Bool
  o : Int
def gsum : List Ce → Int
  | [] => 0
  | c :: l => (if c.p = true then c.t.gr else 0) + gsum l
def fulB (left g : Int) (c : Ce) : Bool := c.p && (decide (0 ≤ lak c.t) && decide (g * lak c.t ≤ left * c.t.gr))
def fil (left g : Int) (c : Ce) : Ce := if fulB left g c = true then ⟨c.t, false, c.t.mx⟩ else c
def lesS (left g : Int) : List Ce → Int
  | [] => 0
  | c :: l => (if fulB left g c = true then lak c.t else 0) + lesS left g l
def cntP : List Ce → Nat
  | [] => 0
  | c :: l => (if c.p = true then 1 else 0) + cntP l
/-- The last round: shares rounded down, then what is left over, one each, to the first. -/
def sprd (left g : Int) : Int → List Ce → List Ce
  | _, [] => []
  | ov, c :: l => if c.p = true then ⟨c.t, c.p, c.o + (left * c.t.gr) / g + (if 0 < ov then 1 else 0)⟩ :: sprd left g (ov - 1) l else c :: sprd left g ov l
def flrS (left g : Int) : List Ce → Int
  | [] => 0
  | c :: l => (if c.p = true then (left * c.t.gr) / g else 0) + flrS left g l
def shr : Nat → Int → List Ce → List Ce
  | 0, _, l => l
  | k + 1, left, l => if gsum l = 0 then l else if l.any (fulB left (gsum l)) = true then shr k (left - lesS left (gsum l) l) (l.map (fil left (gsum l))) else sprd left (gsum l) (left - flrS left (gsum l) l) l

/-- Each takes part only where it grows. -/
def Gro (l : List Ce) : Prop := ∀ c ∈ l, 0 ≤ c.t.gr ∧ (c.p = true → 0 < c.t.gr)
theorem gsum_nn : ∀ {l : List Ce}, Gro l → 0 ≤ gsum l
  | [], _ => Int.le_refl _
  | c :: l, h => by
    have h1 := h c (by simp)
    have h2 := gsum_nn (l := l) fun d hd => h d (by simp [hd])
    rw [gsum]
    split <;> omega
theorem gro_fil {l : List Ce} (h : Gro l) (left g : Int) : Gro (l.map (fil left g)) := by
  intro c hc
  obtain ⟨d, hd, rfl⟩ := List.mem_map.1 hc
  have := h d hd
  unfold fil
  split
  · exact ⟨this.1, fun h => by cases h⟩
  · exact this
theorem cnt_le (left g : Int) : ∀ l : List Ce, cntP (l.map (fil left g)) ≤ cntP l
  | [] => Nat.le_refl _
  | c :: l => by
    have ih := cnt_le left g l
    rw [List.map_cons, cntP, cntP]
    by_cases h : fulB left g c = true
    · have e : (fil left g c).p = false := by unfold fil; rw [if_pos h]
      rw [e]
      simp only [Bool.false_eq_true, if_false]
      omega
    · have e : fil left g c = c := by unfold fil; rw [if_neg h]
      rw [e]
      omega
theorem cnt_lt (left g : Int) : ∀ l : List Ce, l.any (fulB left g) = true → cntP (l.map (fil left g)) < cntP l
  | [], h => by simp at h
  | c :: l, h => by
    rw [List.map_cons, cntP, cntP]
    by_cases hf : fulB left g c = true
    · have e : (fil left g c).p = false := by unfold fil; rw [if_pos hf]
      have hp : c.p = true := by unfold fulB at hf; simp only [Bool.and_eq_true] at hf; exact hf.1
      have := cnt_le left g l
      rw [e, hp]
      simp only [Bool.false_eq_true, if_false, if_true]
      omega
    · have e : fil left g c = c := by unfold fil; rw [if_neg hf]
      have := cnt_lt left g l (by rw [List.any_cons] at h; simpa [hf] using h)
      rw [e]
      omega
theorem gsum_cnt : ∀ {l : List Ce}, cntP l = 0 → gsum l = 0
  | [], _ => rfl
  | c :: l, h => by
    rw [cntP] at h
    rw [gsum]
    split at h
    · omega
    · next hp =>
      rw [if_neg hp, gsum_cnt (by omega)]
      rfl
/-- More fuel than there are that take part changes nothing. -/
theorem shr_fuel : ∀ {k m : Nat} {left : Int} {l : List Ce}, cntP l < k → cntP l < m → shr k left l = shr m left l
  | 0, _, _, _, h, _ => absurd h (Nat.not_lt_zero _)
  | _ + 1, 0, _, _, _, h => absurd h (Nat.not_lt_zero _)
  | k + 1, m + 1, left, l, h1, h2 => by
    rw [shr, shr]
    split
    · rfl
    · split
      · next ha =>
        have := cnt_lt left (gsum l) l ha
        exact shr_fuel (by omega) (by omega)
      · rfl
/-- What filling takes, against the sum of the wishes. -/
theorem les_le {left g : Int} (hg : 0 ≤ g) : ∀ {l : List Ce}, lesS left g l * g ≤ left * (gsum l - gsum (l.map (fil left g)))
  | [] => by simp [lesS, gsum]
  | c :: l => by
    have ih := les_le hg (left := left) (l := l)
    rw [List.map_cons, lesS, gsum, gsum]
    by_cases hf : fulB left g c = true
    · have e : (fil left g c).p = false := by unfold fil; rw [if_pos hf]
      have hf2 := hf
      unfold fulB at hf2
      simp only [Bool.and_eq_true, decide_eq_true_eq] at hf2
      obtain ⟨hp, _, h3⟩ := hf2
      rw [if_pos hf, e, if_pos hp]
      simp only [Bool.false_eq_true, if_false, Int.zero_add]
      have e1 : (lak c.t + lesS left g l) * g = g * lak c.t + lesS left g l * g := by rw [Int.add_mul, Int.mul_comm (lak c.t)]
      have e2 : left * (c.t.gr + gsum l - gsum (l.map (fil left g))) = left * c.t.gr + left * (gsum l - gsum (l.map (fil left g))) := by rw [← Int.mul_add]; congr 1; omega
      omega
    · have e : fil left g c = c := by unfold fil; rw [if_neg hf]
      rw [if_neg hf, e, Int.zero_add]
      have e2 : ∀ a : Int, a + gsum l - (a + gsum (l.map (fil left g))) = gsum l - gsum (l.map (fil left g)) := fun a => by omega
      rw [e2]
      exact ih
/-- The share of one wish never falls. -/
theorem rat_up {left : Int} {l : List Ce} (hg : Gro l) : left * gsum (l.map (fil left (gsum l))) ≤ (left - lesS left (gsum l) l) * gsum l := by
  have h := les_le (left := left) (gsum_nn hg) (l := l)
  rw [Int.mul_sub] at h
  rw [Int.sub_mul]
  omega
theorem left_nn {left : Int} {l : List Ce} (hg : Gro l) (h0 : 0 ≤ left) (hp : 0 < gsum l) : 0 ≤ left - lesS left (gsum l) l := by
  have h := rat_up (left := left) hg
  have h1 : 0 ≤ left * gsum (l.map (fil left (gsum l))) := Int.mul_nonneg h0 (gsum_nn (gro_fil hg _ _))
  by_cases c : 0 ≤ left - lesS left (gsum l) l
  · exact c
  · have : (left - lesS left (gsum l) l) * gsum l < 0 := Int.mul_neg_of_neg_of_pos (by omega) hp
    omega

end Go.Proofs.YthnhcphkpffkfaaGreat

namespace Go.Proofs.YthnhcphkpffkfaaGreat

def sumO : List Ce → Int
  | [] => 0
  | c :: l => c.o + sumO l
/-- What holds of one cell, where left is shared by wishes that sum up to g. -/
def CeK (left g : Int) (c : Ce) : Prop := okT c.t ∧ (c.p = true → 0 < c.t.gr ∧ c.o = c.t.mn) ∧ (c.p = false → (c.t.gr = 0 ∧ c.o = c.t.mn) ∨ (0 < c.t.gr ∧ c.t.mx ≠ 0 ∧ c.o = c.t.mx ∧ lak c.t * g ≤ left * c.t.gr))
def ShI (left : Int) (l : List Ce) : Prop := 0 ≤ left ∧ ∀ c ∈ l, CeK left (gsum l) c
theorem ShI.gro {left : Int} {l : List Ce} (h : ShI left l) : Gro l := fun c hc => by
  obtain ⟨⟨_, _, _, h4, _⟩, h2, _⟩ := h.2 c hc
  exact ⟨h4, fun hp => (h2 hp).1⟩
theorem lak_of {t : Tk} (h : 0 ≤ lak t) : t.mx ≠ 0 ∧ lak t = t.mx - t.mn := by
  unfold lak at h ⊢
  split at h
  · omega
  · next hc => exact ⟨hc, by rw [if_neg hc]⟩
theorem sum_fil (left g : Int) : ∀ {l : List Ce}, (∀ c ∈ l, c.p = true → c.o = c.t.mn) → sumO (l.map (fil left g)) = sumO l + lesS left g l
  | [], _ => rfl
  | c :: l, h => by
    have ih := sum_fil left g (l := l) fun d hd => h d (by simp [hd])
    rw [List.map_cons, sumO, sumO, lesS, ih]
    by_cases hf : fulB left g c = true
    · have hf2 := hf
      unfold fulB at hf2
      simp only [Bool.and_eq_true, decide_eq_true_eq] at hf2
      have h1 := h c (by simp) hf2.1
      have h2 := (lak_of hf2.2.1).2
      have e : (fil left g c).o = c.t.mx := by unfold fil; rw [if_pos hf]
      rw [e, if_pos hf]
      omega
    · have e : fil left g c = c := by unfold fil; rw [if_neg hf]
      rw [e, if_neg hf]
      omega
theorem mul_le_of {a b g : Int} (hg : 0 < g) (h : a * g ≤ b * g) : a ≤ b := Int.le_of_mul_le_mul_right h hg
/-- A round that fills some keeps it. -/
theorem ShI.fil {left : Int} {l : List Ce} (h : ShI left l) (hp : 0 < gsum l) : ShI (left - lesS left (gsum l) l) (l.map (fil left (gsum l))) := by
  have hl := left_nn h.gro h.1 hp
  have hr := rat_up (left := left) h.gro
  have hn := gsum_nn (gro_fil h.gro left (gsum l))
  refine ⟨hl, fun c hc => ?_⟩
  obtain ⟨d, hd, rfl⟩ := List.mem_map.1 hc
  have hk := h.2 d hd
  have key : lak d.t * gsum l ≤ left * d.t.gr → lak d.t * gsum (l.map (Go.Proofs.YthnhcphkpffkfaaGreat.fil left (gsum l))) ≤ (left - lesS left (gsum l) l) * d.t.gr := by
    intro h1
    refine mul_le_of hp ?_
    have a1 : lak d.t * gsum l * gsum (l.map (Go.Proofs.YthnhcphkpffkfaaGreat.fil left (gsum l))) ≤ left * d.t.gr * gsum (l.map (Go.Proofs.YthnhcphkpffkfaaGreat.fil left (gsum l))) := Int.mul_le_mul_of_nonneg_right h1 hn
    have a2 : left * gsum (l.map (Go.Proofs.YthnhcphkpffkfaaGreat.fil left (gsum l))) * d.t.gr ≤ (left - lesS left (gsum l) l) * gsum l * d.t.gr := Int.mul_le_mul_of_nonneg_right hr hk.1.2.2.2.1
    have e1 : lak d.t * gsum l * gsum (l.map (Go.Proofs.YthnhcphkpffkfaaGreat.fil left (gsum l))) = lak d.t * gsum (l.map (Go.Proofs.YthnhcphkpffkfaaGreat.fil left (gsum l))) * gsum l := Int.mul_right_comm _ _ _
    have e2 : left * d.t.gr * gsum (l.map (Go.Proofs.YthnhcphkpffkfaaGreat.fil left (gsum l))) = left * gsum (l.map (Go.Proofs.YthnhcphkpffkfaaGreat.fil left (gsum l))) * d.t.gr := Int.mul_right_comm _ _ _
    have e3 : (left - lesS left (gsum l) l) * gsum l * d.t.gr = (left - lesS left (gsum l) l) * d.t.gr * gsum l := Int.mul_right_comm _ _ _
    rw [← e1, ← e3]
    rw [e2] at a1
    exact Int.le_trans a1 a2
  by_cases hf : fulB left (gsum l) d = true
  · have e : Go.Proofs.YthnhcphkpffkfaaGreat.fil left (gsum l) d = ⟨d.t, false, d.t.mx⟩ := by unfold Go.Proofs.YthnhcphkpffkfaaGreat.fil; rw [if_pos hf]
    rw [e]
    have hf2 := hf
    unfold fulB at hf2
    simp only [Bool.and_eq_true, decide_eq_true_eq] at hf2
    obtain ⟨k1, k2, k3⟩ := hf2
    exact ⟨hk.1, (fun h => by cases h), fun _ => .inr ⟨(hk.2.1 k1).1, (lak_of k2).1, rfl, key (by rw [Int.mul_comm]; exact k3)⟩⟩
  · have e : Go.Proofs.YthnhcphkpffkfaaGreat.fil left (gsum l) d = d := by unfold Go.Proofs.YthnhcphkpffkfaaGreat.fil; rw [if_neg hf]
    rw [e]
    refine ⟨hk.1, hk.2.1, fun hpf => ?_⟩
    rcases hk.2.2 hpf with h1 | ⟨h1, h2, h3, h4⟩
    · exact .inl h1
    · exact .inr ⟨h1, h2, h3, key h4⟩
theorem spr_mem {left g : Int} : ∀ {l : List Ce} {ov : Int} {c : Ce}, c ∈ sprd left g ov l → ∃ d ∈ l, c.t = d.t ∧ c.p = d.p ∧ ((d.p = true ∧ ∃ e : Int, 0 ≤ e ∧ e ≤ 1 ∧ c.o = d.o + (left * d.t.gr) / g + e) ∨ (d.p = false ∧ c = d))
  | [], _, _, h => by simp [sprd] at h
  | a :: l, ov, c, h => by
    rw [sprd] at h
    split at h
    · next hp =>
      rcases List.mem_cons.1 h with rfl | h
      · refine ⟨a, by simp, rfl, rfl, .inl ⟨hp, _, ?_, ?_, rfl⟩⟩ <;> split <;> omega
      · obtain ⟨d, hd, k⟩ := spr_mem h
        exact ⟨d, by simp [hd], k⟩
    · next hp =>
      rcases List.mem_cons.1 h with rfl | h
      · exact ⟨c, by simp, rfl, rfl, .inr ⟨by simpa using hp, rfl⟩⟩
      · obtain ⟨d, hd, k⟩ := spr_mem h
        exact ⟨d, by simp [hd], k⟩
theorem spr_sum0 {left g : Int} : ∀ {l : List Ce} {ov : Int}, ov ≤ 0 → sumO (sprd left g ov l) = sumO l + flrS left g l
  | [], _, _ => rfl
  | a :: l, ov, h => by
    rw [sprd, sumO, flrS]
    split
    · have := spr_sum0 (left := left) (g := g) (l := l) (ov := ov - 1) (by omega)
      rw [sumO, this]
      have : ¬ 0 < ov := by omega
      simp only [if_neg this]
      omega
    · have := spr_sum0 (left := left) (g := g) (l := l) h
      rw [sumO, this]
      omega
theorem spr_sum {left g : Int} : ∀ {l : List Ce} {ov : Int}, 0 ≤ ov → ov ≤ cntP l → sumO (sprd left g ov l) = sumO l + flrS left g l + ov
  | [], ov, h1, h2 => by
    simp [cntP] at h2
    simp [sprd, sumO, flrS]
    omega
  | a :: l, ov, h1, h2 => by
    rw [sprd, sumO, flrS]
    rw [cntP] at h2
    split
    · next hp =>
      rw [if_pos hp] at h2
      by_cases c : 0 < ov
      · have := spr_sum (left := left) (g := g) (l := l) (ov := ov - 1) (by omega) (by omega)
        rw [sumO, this]
        simp only [if_pos c]
        omega
      · have := spr_sum0 (left := left) (g := g) (l := l) (ov := ov - 1) (by omega)
        rw [sumO, this]
        simp only [if_neg c]
        omega
    · next hp =>
      rw [if_neg hp] at h2
      have := spr_sum (left := left) (g := g) (l := l) h1 (by omega)
      rw [sumO, this]
      omega
theorem flr_lo {left g : Int} (hg : 0 < g) : ∀ l : List Ce, flrS left g l * g ≤ left * gsum l
  | [] => by simp [flrS, gsum]
  | a :: l => by
    have ih := flr_lo (left := left) hg l
    rw [flrS, gsum, Int.add_mul, Int.mul_add]
    split
    · have := Int.ediv_mul_le (left * a.t.gr) (Int.ne_of_gt hg)
      omega
    · simp
      exact ih
theorem flr_hi {left g : Int} (hg : 0 < g) : ∀ l : List Ce, left * gsum l ≤ (flrS left g l + cntP l) * g
  | [] => by simp [flrS, gsum, cntP]
  | a :: l => by
    have ih := flr_hi (left := left) hg l
    rw [flrS, gsum, cntP, Int.mul_add]
    rw [Int.add_mul] at ih
    split
    · have h1 := Int.lt_ediv_add_one_mul_self (left * a.t.gr) hg
      rw [Int.add_mul] at h1
      have e : ((left * a.t.gr) / g + flrS left g l + ((1 + cntP l : Nat) : Int)) * g = (left * a.t.gr) / g * g + flrS left g l * g + (g + (cntP l : Int) * g) := by
        rw [Int.add_mul, Int.add_mul, Int.natCast_add, Int.add_mul, Int.natCast_one, Int.one_mul]
      rw [e]
      omega
    · simp
      rw [Int.add_mul]
      exact ih
theorem over_in {left : Int} {l : List Ce} (hg : 0 < gsum l) : 0 ≤ left - flrS left (gsum l) l ∧ left - flrS left (gsum l) l ≤ cntP l := by
  have h1 := mul_le_of hg (flr_lo (left := left) hg l)
  have h2 := mul_le_of hg (flr_hi (left := left) hg l)
  omega

/-- What sharing keeps: T the sum that there is to be. -/
structure Fair (T : Int) (l R : List Ce) : Prop where
  tk : R.map (·.t) = l.map (·.t)
  lo : ∀ c ∈ R, c.t.mn ≤ c.o ∧ (c.t.mn < c.o → 0 < c.t.gr) ∧ (c.t.mn < c.o → c.t.mx ≠ 0 → c.o ≤ c.t.mx)
  fr : ∀ c ∈ R, ∀ d ∈ R, c.t.mn < c.o → 0 < d.t.gr → (d.t.mx = 0 ∨ d.o < d.t.mx) → (c.o - c.t.mn - 1) * d.t.gr < (d.o - d.t.mn + 1) * c.t.gr
  sm : sumO R = T ∨ (sumO R ≤ T ∧ ∀ c ∈ R, (c.t.gr = 0 ∧ c.o = c.t.mn) ∨ (0 < c.t.gr ∧ c.t.mx ≠ 0 ∧ c.o = c.t.mx))
theorem spr_tk {left g : Int} : ∀ (l : List Ce) (ov : Int), (sprd left g ov l).map (·.t) = l.map (·.t)
  | [], _ => rfl
  | a :: l, ov => by
    rw [sprd]
    split
    · rw [List.map_cons, List.map_cons, spr_tk l]
    · rw [List.map_cons, List.map_cons, spr_tk l]
theorem fil_tk {left g : Int} (l : List Ce) : (l.map (fil left g)).map (·.t) = l.map (·.t) := by
  rw [List.map_map]
  refine List.map_congr_left fun c _ => ?_
  show (fil left g c).t = c.t
  unfold fil
  split <;> rfl
theorem gsum_pos : ∀ {l : List Ce}, Gro l → ∀ c ∈ l, c.p = true → 0 < gsum l
  | [], _, _, h, _ => by cases h
  | a :: l, hg, c, h, hp => by
    have h0 := gsum_nn (l := l) fun d hd => hg d (by simp [hd])
    have ha := hg a (by simp)
    rw [gsum]
    rcases List.mem_cons.1 h with rfl | h
    · rw [if_pos hp]
      have := ha.2 hp
      omega
    · have := gsum_pos (l := l) (fun d hd => hg d (by simp [hd])) c h hp
      split <;> omega
theorem fair_none {left : Int} {l : List Ce} (h : ShI left l) (h0 : gsum l = 0) : Fair (sumO l + left) l l := by
  have hno : ∀ c ∈ l, c.p = false := fun c hc => by
    cases e : c.p with
    | false => rfl
    | true => have := gsum_pos h.gro c hc e; omega
  have hk : ∀ c ∈ l, (c.t.gr = 0 ∧ c.o = c.t.mn) ∨ (0 < c.t.gr ∧ c.t.mx ≠ 0 ∧ c.o = c.t.mx) := fun c hc => by
    rcases (h.2 c hc).2.2 (hno c hc) with k | ⟨k1, k2, k3, _⟩
    · exact .inl k
    · exact .inr ⟨k1, k2, k3⟩
  refine ⟨rfl, fun c hc => ?_, fun c hc d hd h1 h2 h3 => ?_, .inr ⟨by have := h.1; omega, hk⟩⟩
  · obtain ⟨_, _, o3, _, _⟩ := (h.2 c hc).1
    rcases hk c hc with ⟨k1, k2⟩ | ⟨k1, k2, k3⟩
    · refine ⟨by omega, fun h => by omega, fun h => by omega⟩
    · refine ⟨by omega, fun _ => k1, fun _ _ => by omega⟩
  · exfalso
    rcases hk d hd with ⟨k1, k2⟩ | ⟨k1, k2, k3⟩ <;> omega
theorem fair_last {left : Int} {l : List Ce} (h : ShI left l) (h0 : 0 < gsum l) (hn : ¬ l.any (fulB left (gsum l)) = true) : Fair (sumO l + left) l (sprd left (gsum l) (left - flrS left (gsum l) l) l) := by
  have hnf : ∀ d ∈ l, ¬ fulB left (gsum l) d = true := fun d hd hc => hn (List.any_eq_true.2 ⟨d, hd, hc⟩)
  generalize hg : gsum l = g at *
  -- of each: what it has beyond its least
  have hc : ∀ ov, ∀ c ∈ sprd left g ov l, okT c.t ∧ ((c.t.gr = 0 ∧ c.o = c.t.mn) ∨ (0 < c.t.gr ∧ c.t.mx ≠ 0 ∧ c.o = c.t.mx ∧ lak c.t * g ≤ left * c.t.gr) ∨ (0 < c.t.gr ∧ c.t.mn ≤ c.o ∧ (c.t.mx ≠ 0 → c.o ≤ c.t.mx) ∧ (c.o - c.t.mn - 1) * g ≤ left * c.t.gr ∧ left * c.t.gr < (c.o - c.t.mn + 1) * g)) := by
    intro ov c hm
    obtain ⟨d, hd, e1, e2, k⟩ := spr_mem hm
    have hk := h.2 d hd
    rw [hg] at hk
    refine ⟨by rw [e1]; exact hk.1, ?_⟩
    rcases k with ⟨hp, e, g1, g2, ho⟩ | ⟨hp, rfl⟩
    · obtain ⟨q1, q2⟩ := hk.2.1 hp
      have hl := h.1
      have p0 : 0 ≤ left * d.t.gr := Int.mul_nonneg hl (by omega)
      have d1 := Int.ediv_mul_le (left * d.t.gr) (Int.ne_of_gt h0)
      have d2 := Int.lt_ediv_add_one_mul_self (left * d.t.gr) h0
      have d3 : 0 ≤ (left * d.t.gr) / g := Int.ediv_nonneg p0 (by omega)
      generalize hq : (left * d.t.gr) / g = q at *
      rw [e1, ho, q2]
      refine .inr (.inr ⟨q1, by omega, fun hmx => ?_, ?_, ?_⟩)
      · have hl2 : lak d.t = d.t.mx - d.t.mn := by unfold lak; rw [if_neg hmx]
        obtain ⟨_, _, o3, _, _⟩ := hk.1
        have nf := hnf d hd
        unfold fulB at nf
        simp only [hp, Bool.true_and, Bool.and_eq_true, decide_eq_true_eq] at nf
        have n1 : 0 ≤ lak d.t := by omega
        have n2 : left * d.t.gr < g * lak d.t := by
          by_cases c : g * lak d.t ≤ left * d.t.gr
          · exact absurd ⟨n1, c⟩ nf
          · omega
        have n3 : q * g < lak d.t * g := by rw [Int.mul_comm (lak d.t)]; omega
        have n4 : q < lak d.t := Int.lt_of_mul_lt_mul_right n3 (by omega)
        omega
      · have : (d.t.mn + q + e - d.t.mn - 1) * g ≤ q * g := Int.mul_le_mul_of_nonneg_right (by omega) (by omega)
        omega
      · have : (q + 1) * g ≤ (d.t.mn + q + e - d.t.mn + 1) * g := Int.mul_le_mul_of_nonneg_right (by omega) (by omega)
        omega
    · rcases hk.2.2 hp with k1 | k1
      · exact .inl k1
      · exact .inr (.inl k1)
  refine ⟨spr_tk _ _, fun c hm => ?_, fun c hm d hm' h1 h2 h3 => ?_, .inl ?_⟩
  · obtain ⟨⟨_, _, o3, _, _⟩, k⟩ := hc _ c hm
    rcases k with ⟨k1, k2⟩ | ⟨k1, k2, k3, _⟩ | ⟨k1, k2, k3, _, _⟩
    · exact ⟨by omega, fun h => by omega, fun h => by omega⟩
    · exact ⟨by omega, fun _ => k1, fun _ _ => by omega⟩
    · exact ⟨k2, fun _ => k1, fun _ hx => k3 hx⟩
  · -- one that has more than its least, one that may have more
    have a1 : 0 < c.t.gr ∧ (c.o - c.t.mn - 1) * g ≤ left * c.t.gr := by
      rcases (hc _ c hm).2 with ⟨k1, k2⟩ | ⟨k1, k2, k3, k4⟩ | ⟨k1, _, _, k4, _⟩
      · omega
      · have hl2 : lak c.t = c.t.mx - c.t.mn := by unfold lak; rw [if_neg k2]
        have : (c.o - c.t.mn - 1) * g ≤ lak c.t * g := Int.mul_le_mul_of_nonneg_right (by omega) (by omega)
        exact ⟨k1, by omega⟩
      · exact ⟨k1, k4⟩
    have a2 : left * d.t.gr < (d.o - d.t.mn + 1) * g := by
      rcases (hc _ d hm').2 with ⟨k1, k2⟩ | ⟨k1, k2, k3, k4⟩ | ⟨_, _, _, _, k5⟩
      · omega
      · omega
      · exact k5
    have b1 : (c.o - c.t.mn - 1) * g * d.t.gr ≤ left * c.t.gr * d.t.gr := Int.mul_le_mul_of_nonneg_right a1.2 (by omega)
    have b2 : left * d.t.gr * c.t.gr < (d.o - d.t.mn + 1) * g * c.t.gr := Int.mul_lt_mul_of_pos_right a2 a1.1
    have e1 : left * c.t.gr * d.t.gr = left * d.t.gr * c.t.gr := Int.mul_right_comm _ _ _
    have e2 : (c.o - c.t.mn - 1) * g * d.t.gr = (c.o - c.t.mn - 1) * d.t.gr * g := Int.mul_right_comm _ _ _
    have e3 : (d.o - d.t.mn + 1) * g * c.t.gr = (d.o - d.t.mn + 1) * c.t.gr * g := Int.mul_right_comm _ _ _
    refine Int.lt_of_mul_lt_mul_right (a := g) ?_ (by omega)
    rw [← e2, ← e3]
    omega
  · have := over_in (left := left) (l := l) (by omega)
    rw [hg] at this
    rw [spr_sum this.1 this.2]
    omega
/-- The rounds share fairly. -/
theorem shr_fair : ∀ {k : Nat} {left : Int} {l : List Ce}, ShI left l → cntP l < k → Fair (sumO l + left) l (shr k left l)
  | 0, _, _, _, h => absurd h (Nat.not_lt_zero _)
  | k + 1, left, l, h, hk => by
    rw [shr]
    split
    · next h0 => exact fair_none h h0
    · next h0 =>
      have hp : 0 < gsum l := by have := gsum_nn h.gro; omega
      split
      · next ha =>
        have h1 := cnt_lt left (gsum l) l ha
        have ih := shr_fair (h.fil hp) (k := k) (by omega)
        have hs := sum_fil left (gsum l) (l := l) fun c hc hpc => ((h.2 c hc).2.1 hpc).2
        rw [hs, show sumO l + lesS left (gsum l) l + (left - lesS left (gsum l) l) = sumO l + left by omega] at ih
        exact ⟨ih.tk.trans (fil_tk l), ih.lo, ih.fr, ih.sm⟩
      · next hn => exact fair_last h hp hn

end Go.Proofs.YthnhcphkpffkfaaGreat

namespace Go.Proofs.YthnhcphkpffkfaaGreat

def mnS : List Tk → Int
  | [] => 0
  | t :: l => t.mn + mnS l
def topT (t : Tk) : Int := if t.gr = 0 then t.mn else t.mx
def topS : List Tk → Int
  | [] => 0
  | t :: l => topT t + topS l
/-- One that grows without a top. -/
def anyB (l : List Tk) : Bool := l.any fun t => !(t.gr == 0) && t.mx == 0
def mosI (l : List Tk) : Int := if anyB l = true then -1 else topS l
def ini (l : List Tk) : List Ce := l.map fun t => ⟨t, decide (0 < t.gr), t.mn⟩
def shaC (l : List Tk) (room : Int) : List Ce := if room - mnS l ≤ 0 then ini l else shr (l.length + 1) (room - mnS l) (ini l)
/-- What each has. -/
def shaR (l : List Tk) (room : Int) : List Int := (shaC l room).map (·.o)
theorem ini_tk (l : List Tk) : (ini l).map (·.t) = l := by
  unfold ini
  rw [List.map_map]
  exact List.map_id'' (fun _ => rfl) l
theorem ini_sum : ∀ l : List Tk, sumO (ini l) = mnS l
  | [] => rfl
  | t :: l => by
    have := ini_sum l
    unfold ini at this ⊢
    rw [List.map_cons, sumO, mnS, this]
theorem ini_cnt : ∀ l : List Tk, cntP (ini l) ≤ l.length
  | [] => Nat.le_refl _
  | t :: l => by
    have := ini_cnt l
    unfold ini at this ⊢
    rw [List.map_cons, cntP, List.length_cons]
    split <;> omega
theorem ini_inv {l : List Tk} (hk : ∀ t ∈ l, okT t) {left : Int} (h0 : 0 ≤ left) : ShI left (ini l) := by
  refine ⟨h0, fun c hc => ?_⟩
  unfold ini at hc
  obtain ⟨t, ht, rfl⟩ := List.mem_map.1 hc
  have h := hk t ht
  refine ⟨h, fun hp => ⟨of_decide_eq_true hp, rfl⟩, fun hp => .inl ⟨?_, rfl⟩⟩
  have := of_decide_eq_false hp
  obtain ⟨_, _, _, h4, _⟩ := h
  show t.gr = 0
  omega
/-- What holds of all sharings. -/
theorem sha_tk {l : List Tk} (hk : ∀ t ∈ l, okT t) (room : Int) : (shaC l room).map (·.t) = l := by
  unfold shaC
  split
  · exact ini_tk l
  · have := (shr_fair (ini_inv hk (left := room - mnS l) (by omega)) (k := l.length + 1) (by have := ini_cnt l; omega)).tk
    rw [this, ini_tk]
theorem sha_lo {l : List Tk} (hk : ∀ t ∈ l, okT t) (room : Int) : ∀ c ∈ shaC l room, c.t.mn ≤ c.o ∧ (c.t.mn < c.o → 0 < c.t.gr) ∧ (c.t.mn < c.o → c.t.mx ≠ 0 → c.o ≤ c.t.mx) := by
  unfold shaC
  split
  · intro c hc
    unfold ini at hc
    obtain ⟨t, ht, rfl⟩ := List.mem_map.1 hc
    refine ⟨Int.le_refl _, fun h => absurd h (Int.lt_irrefl _), fun h => absurd h (Int.lt_irrefl _)⟩
  · exact (shr_fair (ini_inv hk (left := room - mnS l) (by omega)) (k := l.length + 1) (by have := ini_cnt l; omega)).lo
theorem sha_fr {l : List Tk} (hk : ∀ t ∈ l, okT t) (room : Int) : ∀ c ∈ shaC l room, ∀ d ∈ shaC l room, c.t.mn < c.o → 0 < d.t.gr → (d.t.mx = 0 ∨ d.o < d.t.mx) → (c.o - c.t.mn - 1) * d.t.gr < (d.o - d.t.mn + 1) * c.t.gr := by
  unfold shaC
  split
  · intro c hc
    unfold ini at hc
    obtain ⟨t, ht, rfl⟩ := List.mem_map.1 hc
    intro d _ h
    exact absurd h (Int.lt_irrefl _)
  · exact (shr_fair (ini_inv hk (left := room - mnS l) (by omega)) (k := l.length + 1) (by have := ini_cnt l; omega)).fr
theorem top_ge : ∀ {R : List Ce}, (∀ c ∈ R, okT c.t) → (∀ c ∈ R, c.t.mn ≤ c.o ∧ (c.t.mn < c.o → 0 < c.t.gr) ∧ (c.t.mn < c.o → c.t.mx ≠ 0 → c.o ≤ c.t.mx)) → anyB (R.map (·.t)) = false → sumO R ≤ topS (R.map (·.t))
  | [], _, _, _ => Int.le_refl _
  | c :: R, hk, h, ha => by
    rw [List.map_cons] at ha ⊢
    unfold anyB at ha
    rw [List.any_cons, Bool.or_eq_false_iff] at ha
    have ih := top_ge (R := R) (fun d hd => hk d (by simp [hd])) (fun d hd => h d (by simp [hd])) ha.2
    obtain ⟨h1, h2, h3⟩ := h c (by simp)
    obtain ⟨_, _, o3, _, _⟩ := hk c (by simp)
    rw [sumO, topS]
    have : c.o ≤ topT c.t := by
      unfold topT
      split
      · next hg => by_cases x : c.t.mn < c.o
                   · have := h2 x; omega
                   · omega
      · next hg =>
        have hm : c.t.mx ≠ 0 := fun e => by
          have := ha.1
          simp [hg, e] at this
        by_cases x : c.t.mn < c.o
        · exact h3 x hm
        · omega
    omega
theorem top_full : ∀ {R : List Ce}, (∀ c ∈ R, (c.t.gr = 0 ∧ c.o = c.t.mn) ∨ (0 < c.t.gr ∧ c.t.mx ≠ 0 ∧ c.o = c.t.mx)) → anyB (R.map (·.t)) = false ∧ sumO R = topS (R.map (·.t))
  | [], _ => ⟨rfl, rfl⟩
  | c :: R, h => by
    have ih := top_full (R := R) fun d hd => h d (by simp [hd])
    rw [List.map_cons]
    unfold anyB at ih ⊢
    rw [List.any_cons, ih.1, Bool.or_false, sumO, topS, ih.2]
    unfold topT
    rcases h c (by simp) with ⟨h1, h2⟩ | ⟨h1, h2, h3⟩
    · exact ⟨by simp [h1], by rw [if_pos h1, h2]⟩
    · exact ⟨by simp [h2], by rw [if_neg (by omega), h3]⟩
theorem min_top : ∀ {l : List Tk}, (∀ t ∈ l, okT t) → anyB l = false → mnS l ≤ topS l
  | [], _, _ => Int.le_refl _
  | t :: l, hk, ha => by
    unfold anyB at ha
    rw [List.any_cons, Bool.or_eq_false_iff] at ha
    have ih := min_top (l := l) (fun d hd => hk d (by simp [hd])) ha.2
    obtain ⟨_, _, o3, _, _⟩ := hk t (by simp)
    rw [mnS, topS]
    have : t.mn ≤ topT t := by
      unfold topT
      split
      · omega
      · next hg =>
        have hm : t.mx ≠ 0 := fun e => by
          have := ha.1
          simp [hg, e] at this
        omega
    omega
theorem top_nn : ∀ {l : List Tk}, (∀ t ∈ l, okT t) → 0 ≤ topS l
  | [], _ => Int.le_refl _
  | t :: l, hk => by
    have ih := top_nn (l := l) fun d hd => hk d (by simp [hd])
    obtain ⟨_, _, o3, _, _⟩ := hk t (by simp)
    rw [topS]
    unfold topT
    split <;> omega
/-- All room is used, as far as it can be. -/
theorem sha_sum {l : List Tk} (hk : ∀ t ∈ l, okT t) (room : Int) : sumO (shaC l room) = if 0 ≤ mosI l then min (max (mnS l) room) (mosI l) else max (mnS l) room := by
  have htk := sha_tk hk room
  have hlo := sha_lo hk room
  have hkc : ∀ c ∈ shaC l room, okT c.t := fun c hc => hk c.t (by rw [← htk]; exact List.mem_map.2 ⟨c, hc, rfl⟩)
  have htop : anyB l = false → sumO (shaC l room) ≤ topS l := fun ha => by
    have := top_ge hkc hlo (by rw [htk]; exact ha)
    rwa [htk] at this
  have hnn := top_nn hk
  have hmt := min_top hk
  have key : (sumO (shaC l room) = max (mnS l) room) ∨ (anyB l = false ∧ sumO (shaC l room) = topS l ∧ topS l ≤ max (mnS l) room) := by
    by_cases hr : room - mnS l ≤ 0
    · left
      have : shaC l room = ini l := by unfold shaC; rw [if_pos hr]
      rw [this, ini_sum]
      omega
    · have hf := shr_fair (ini_inv hk (left := room - mnS l) (by omega)) (k := l.length + 1) (by have := ini_cnt l; omega)
      have e : shaC l room = shr (l.length + 1) (room - mnS l) (ini l) := by unfold shaC; rw [if_neg hr]
      rw [← e, ini_sum] at hf
      rcases hf.sm with h | ⟨h1, h2⟩
      · left; omega
      · right
        have := top_full h2
        rw [htk] at this
        exact ⟨this.1, this.2, by omega⟩
  unfold mosI
  cases ha : anyB l with
  | true =>
    rw [if_pos rfl, if_neg (by omega)]
    rcases key with h | ⟨h, _⟩
    · exact h
    · rw [ha] at h; cases h
  | false =>
    have h1 := htop ha
    simp only [Bool.false_eq_true, if_false]
    rw [if_pos hnn]
    rcases key with h | ⟨_, h2, h3⟩ <;> omega

end Go.Proofs.YthnhcphkpffkfaaGreat
