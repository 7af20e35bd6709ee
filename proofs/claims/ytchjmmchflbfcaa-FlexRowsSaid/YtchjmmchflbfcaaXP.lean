/-
  Tracks that share a room: the rounds in plain lists.
-/
import Derived.Below
namespace Go.Proofs.Ytchjmmchflbfcaa

structure Tk where
  mn : Int
  mx : Int
  gr : Int
def okT (t : Tk) : Prop := 0 ≤ t.mn ∧ t.mn ≤ 16384 ∧ (t.mx = 0 ∨ t.mn ≤ t.mx ∧ t.mx ≤ 16384) ∧ 0 ≤ t.gr ∧ t.gr ≤ 16384
/-- What a track lacks; -1: any. -/
def lak (t : Tk) : Int := if t.mx = 0 then -1 else t.mx - t.mn
/-- A track that shares: does it take part still, and what it has. -/
structure Ce where
  t : Tk
  p : Bool
  o : Int
def gsum : List Ce → Int
  | [] => 0
  | c :: l => (if c.p = true then c.t.gr else 0) + gsum l
def fulB (left g : Int) (c : Ce) : Bool := c.p && (decide (0 ≤ lak c.t) && decide (g * lak c.t ≤ left * c.t.gr))
def fil (left g : Int) (c : Ce) : Ce := if fulB left g c = true then ⟨c.t, false, c.t.mx⟩ else c
def lesS (left g : Int) : List Ce → Int
  | [] => 0
  | c :: l => (if fulB left g c = true then lak c.t else 0) + lesS left g l
def cntP : List Ce → Nat
  | [] => 0
  | c :: l => (if c.p = true then 1 else 0) + cntP l
/-- The last round: shares rounded down, then what is left over, one each, to the first. -/
def sprd (left g : Int) : Int → List Ce → List Ce
  | _, [] => []
  | ov, c :: l => if c.p = true then ⟨c.t, c.p, c.o + (left * c.t.gr) / g + (if 0 < ov then 1 else 0)⟩ :: sprd left g (ov - 1) l else c :: sprd left g ov l
def flrS (left g : Int) : List Ce → Int
  | [] => 0
  | c :: l => (if c.p = true then (left * c.t.gr) / g else 0) + flrS left g l
def shr : Nat → Int → List Ce → List Ce
  | 0, _, l => l
  | k + 1, left, l => if gsum l = 0 then l else if l.any (fulB left (gsum l)) = true then shr k (left - lesS left (gsum l) l) (l.map (fil left (gsum l))) else sprd left (gsum l) (left - flrS left (gsum l) l) l

/-- Each takes part only where it grows. -/
def Gro (l : List Ce) : Prop := ∀ c ∈ l, 0 ≤ c.t.gr ∧ (c.p = true → 0 < c.t.gr)
theorem gsum_nn : ∀ {l : List Ce}, Gro l → 0 ≤ gsum l
  | [], _ => Int.le_refl _
  | c :: l, h => by
    have h1 := h c (by simp)
    have h2 := gsum_nn (l := l) fun d hd => h d (by simp [hd])
    rw [gsum]
    split <;> omega
theorem gro_fil {l : List Ce} (h : Gro l) (left g : Int) : Gro (l.map (fil left g)) := by
  intro c hc
  obtain ⟨d, hd, rfl⟩ := List.mem_map.1 hc
  have := h d hd
  unfold fil
  split
  · exact ⟨this.1, fun h => by cases h⟩
  · exact this
theorem cnt_le (left g : Int) : ∀ l : List Ce, cntP (l.map (fil left g)) ≤ cntP l
  | [] => Nat.le_refl _
  | c :: l => by
    have ih := cnt_le left g l
    rw [List.map_cons, cntP, cntP]
    by_cases h : fulB left g c = true
    · have e : (fil left g c).p = false := by unfold fil; rw [if_pos h]
      rw [e]
      simp only [Bool.false_eq_true, if_false]
      omega
    · have e : fil left g c = c := by unfold fil; rw [if_neg h]
      rw [e]
      omega
theorem cnt_lt (left g : Int) : ∀ l : List Ce, l.any (fulB left g) = true → cntP (l.map (fil left g)) < cntP l
  | [], h => by simp at h
  | c :: l, h => by
    rw [List.map_cons, cntP, cntP]
    by_cases hf : fulB left g c = true
    · have e : (fil left g c).p = false := by unfold fil; rw [if_pos hf]
      have hp : c.p = true := by unfold fulB at hf; simp only [Bool.and_eq_true] at hf; exact hf.1
      have := cnt_le left g l
      rw [e, hp]
      simp only [Bool.false_eq_true, if_false, if_true]
      omega
    · have e : fil left g c = c := by unfold fil; rw [if_neg hf]
      have := cnt_lt left g l (by rw [List.any_cons] at h; simpa [hf] using h)
      rw [e]
      omega
theorem gsum_cnt : ∀ {l : List Ce}, cntP l = 0 → gsum l = 0
  | [], _ => rfl
  | c :: l, h => by
    rw [cntP] at h
    rw [gsum]
    split at h
    · omega
    · next hp =>
      rw [if_neg hp, gsum_cnt (by omega)]
      rfl
/-- More fuel than there are that take part changes nothing. -/
theorem shr_fuel : ∀ {k m : Nat} {left : Int} {l : List Ce}, cntP l < k → cntP l < m → shr k left l = shr m left l
  | 0, _, _, _, h, _ => absurd h (Nat.not_lt_zero _)
  | _ + 1, 0, _, _, _, h => absurd h (Nat.not_lt_zero _)
  | k + 1, m + 1, left, l, h1, h2 => by
    rw [shr, shr]
    split
    · rfl
    · split
      · next ha =>
        have := cnt_lt left (gsum l) l ha
        exact shr_fuel (by omega) (by omega)
      · rfl
/-- What filling takes, against the sum of the wishes. -/
theorem les_le {left g : Int} (hg : 0 ≤ g) : ∀ {l : List Ce}, lesS left g l * g ≤ left * (gsum l - gsum (l.map (fil left g)))
  | [] => by simp [lesS, gsum]
  | c :: l => by
    have ih := les_le hg (left := left) (l := l)
    rw [List.map_cons, lesS, gsum, gsum]
    by_cases hf : fulB left g c = true
    · have e : (fil left g c).p = false := by unfold fil; rw [if_pos hf]
      have hf2 := hf
      unfold fulB at hf2
      simp only [Bool.and_eq_true, decide_eq_true_eq] at hf2
      obtain ⟨hp, _, h3⟩ := hf2
      rw [if_pos hf, e, if_pos hp]
      simp only [Bool.false_eq_true, if_false, Int.zero_add]
      have e1 : (lak c.t + lesS left g l) * g = g * lak c.t + lesS left g l * g := by rw [Int.add_mul, Int.mul_comm (lak c.t)]
      have e2 : left * (c.t.gr + gsum l - gsum (l.map (fil left g))) = left * c.t.gr + left * (gsum l - gsum (l.map (fil left g))) := by rw [← Int.mul_add]; congr 1; omega
      omega
    · have e : fil left g c = c := by unfold fil; rw [if_neg hf]
      rw [if_neg hf, e, Int.zero_add]
      have e2 : ∀ a : Int, a + gsum l - (a + gsum (l.map (fil left g))) = gsum l - gsum (l.map (fil left g)) := fun a => by omega
      rw [e2]
      exact ih
/-- The share of one wish never falls. -/
theorem rat_up {left : Int} {l : List Ce} (hg : Gro l) : left * gsum (l.map (fil left (gsum l))) ≤ (left - lesS left (gsum l) l) * gsum l := by
  have h := les_le (left := left) (gsum_nn hg) (l := l)
  rw [Int.mul_sub] at h
  rw [Int.sub_mul]
  omega
theorem left_nn {left : Int} {l : List Ce} (hg : Gro l) (h0 : 0 ≤ left) (hp : 0 < gsum l) : 0 ≤ left - lesS left (gsum l) l := by
  have h := rat_up (left := left) hg
  have h1 : 0 ≤ left * gsum (l.map (fil left (gsum l))) := Int.mul_nonneg h0 (gsum_nn (gro_fil hg _ _))
  by_cases c : 0 ≤ left - lesS left (gsum l) l
  · exact c
  · have : (left - lesS left (gsum l) l) * gsum l < 0 := Int.mul_neg_of_neg_of_pos (by omega) hp
    omega

end Go.Proofs.Ytchjmmchflbfcaa
