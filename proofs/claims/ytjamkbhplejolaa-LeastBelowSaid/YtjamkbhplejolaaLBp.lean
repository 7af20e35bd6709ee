/-
  LeastBelow, the plain part.
-/
import Derived.Test.YtjamkbhplejolaaLMr
import Derived.Test.YtjamkbhplejolaaLLp
namespace Go.Proofs.Ytjamkbhplejolaa
open Go.RowKit

/-- Numbers that keep all bounds and are not below 0. -/
def fin0 (xs : List Int) (L : List Bq) : Bool := decide (kpE xs L = 0) && decide (kpN xs L = -1)
def geB (x : Int) : Bool := decide (0 ≤ x)
def finB (xs : List Int) (L : List Bq) : Bool := fin0 xs L && xs.all geB
def undB (xs : List Int) (L : List Bq) (most : Int) : Bool := finB xs L && xs.all fun x => decide (x ≤ most)
theorem kpA_all {x : Nat → Int} : ∀ {l : List Bn} {i : Nat}, kpA x i l = -1 → Kps l x
  | [], _, _ => fun b hb => by cases hb
  | b :: t, i, h => by
    rw [kpA] at h
    split at h
    · omega
    · next hc =>
      intro c hcm
      rcases List.mem_cons.1 hcm with rfl | hcm
      · omega
      · exact kpA_all h c hcm
theorem all_kpA {x : Nat → Int} : ∀ {l : List Bn} {i : Nat}, Kps l x → kpA x i l = -1
  | [], _, _ => rfl
  | b :: t, i, h => by
    rw [kpA, if_neg (by have := h b (by simp); omega)]
    exact all_kpA fun c hc => h c (by simp [hc])
theorem fin_facts {xs : List Int} {L : List Bq} (h : finB xs L = true) : chk xs.length L = 0 ∧ Kps (nat L) (atF xs) ∧ ∀ i, 0 ≤ atF xs i := by
  unfold finB fin0 at h
  simp only [Bool.and_eq_true, decide_eq_true_eq] at h
  obtain ⟨⟨h1, h2⟩, h3⟩ := h
  have hc : chk xs.length L = 0 := by
    unfold kpE at h1
    split at h1
    · exact h1
    · next h0 => exact absurd h1 h0
  refine ⟨hc, ?_, fun i => ?_⟩
  · unfold kpN at h2
    rw [if_pos h1] at h2
    exact kpA_all h2
  · by_cases hi : i < xs.length
    · have := List.all_eq_true.1 h3 xs[i] (List.getElem_mem hi)
      unfold geB at this
      have := of_decide_eq_true this
      simpa [atF, hi] using this
    · simp [atF, hi]
theorem und_facts {xs : List Int} {L : List Bq} {most : Int} (h : undB xs L most = true) : finB xs L = true ∧ ∀ i, i < xs.length → atF xs i ≤ most := by
  unfold undB at h
  rw [Bool.and_eq_true] at h
  refine ⟨h.1, fun i hi => ?_⟩
  have := of_decide_eq_true (List.all_eq_true.1 h.2 xs[i] (List.getElem_mem hi))
  simpa [atF, hi] using this
/-- Where there are none, no others are. -/
theorem fin_none {xs : List Int} {L : List Bq} (h : solE xs.length L = 90) : finB xs L = false := by
  cases e : finB xs L with
  | false => rfl
  | true =>
    exfalso
    obtain ⟨h0, hK, hn⟩ := fin_facts e
    have hs : slE xs.length L = 90 := by unfold solE at h; rw [if_pos h0, Int.toNat_natCast] at h; exact h
    obtain ⟨_, _, _, h4⟩ := chk_zero h0
    unfold slE at hs
    split at hs
    · omega
    · next hl =>
      cases e2 : (rds (nat L) xs.length rs0).l with
      | none => exact hl e2
      | some v => exact none_keep (nat_abt h4) e2 (last_lt (nat_abt h4) e2).2 _ hK
theorem mo_none {n : Int} {L : List Bq} {most : Int} (h : ¬ solE n L = 0) : ¬ moE n L most = 0 := by
  unfold moE
  split
  · next h0 =>
    split
    · omega
    · split
      · next h2 =>
        exfalso
        exact h ((trq_ok n L).1 (by unfold solE; rw [chk_trq, if_pos h0]; exact h2))
      · next h2 => exact h2
  · next h0 => exact h0
theorem sol_below {xs : List Int} {L : List Bq} (h : finB xs L = true) : ∀ i, (rds (nat L) xs.length rs0).x i ≤ atF xs i := by
  obtain ⟨_, hK, hn⟩ := fin_facts h
  exact rds_le hK (s := rs0) hn
theorem und_mo {xs : List Int} {L : List Bq} {most : Int} (h : undB xs L most = true) : ∀ i, i < xs.length → moX xs.length L i ≤ most - atF xs i := by
  obtain ⟨hf, hm⟩ := und_facts h
  obtain ⟨hc, hK, hn⟩ := fin_facts hf
  unfold moX
  rw [Int.toNat_natCast, nat_trq]
  -- beyond the numbers nothing is asked: there let them be 0
  have hK2 : Kps (trn (nat L)) fun v => if v < xs.length then most - atF xs v else 0 := by
    obtain ⟨_, _, _, h4⟩ := chk_zero hc
    have hab := trn_abt (nat_abt h4)
    intro b hb
    have hbb := hab b hb
    have := trn_kps most hK b hb
    simp only [if_pos hbb.1, if_pos hbb.2]
    exact this
  intro i hi
  have := rds_le hK2 (k := xs.length) (s := rs0) (fun v => by
    show (0 : Int) ≤ _
    split
    · next hv => have := hm v hv; omega
    · exact Int.le_refl _) i
  simpa [hi] using this
theorem mo_90 {xs : List Int} {L : List Bq} {most : Int} (he : solE xs.length L = 0) (h : moE xs.length L most = 90) : undB xs L most = false := by
  cases e : undB xs L most with
  | false => rfl
  | true =>
    exfalso
    have hu := und_mo e
    obtain ⟨hf, hm⟩ := und_facts e
    obtain ⟨_, _, hn⟩ := fin_facts hf
    have h0 := (solE_zero he).1
    unfold moE at h
    rw [if_pos h0] at h
    split at h
    · omega
    · have hs : slE (xs.length : Int).toNat (L.map trq) = 0 := by
        have := (trq_ok xs.length L).2 he
        unfold solE at this
        rw [chk_trq, if_pos h0] at this
        exact this
      rw [if_pos hs, Int.toNat_natCast, moB_yes (fun j hj => by have := hu j hj; have := hn j; omega)] at h
      simp at h
/-- The greatest numbers. -/
theorem mo_facts {n : Int} {L : List Bq} {most : Int} (h : moE n L most = 0) : ∃ N : Nat, n = N ∧ N ≤ 4096 ∧ 0 ≤ most ∧ most ≤ 1099511627776 ∧ moL n L most = rowN N (fun v => most - moX n L v) ∧ (∀ v, 0 ≤ moX n L v) ∧ (∀ v, v < N → moX n L v ≤ most) ∧ Kps (nat L) fun v => most - moX n L v := by
  obtain ⟨N, hN, h1, h2, h3, h4, h5, h6⟩ := mo_of h
  subst hN
  have hb : moB N (moX N L) most = true := by
    unfold moE at h
    split at h
    · split at h
      · omega
      · split at h
        · split at h
          · next hb => rw [Int.toNat_natCast] at hb; exact hb
          · omega
        · next h0 => exact absurd h h0
    · next h0 => exact absurd h h0
  refine ⟨N, rfl, h1, h2, h3, h4, fun v => (h6 v).1, fun v hv => ?_, ?_⟩
  · unfold moB at hb
    exact of_decide_eq_true (List.all_eq_true.1 hb v (List.mem_range.2 hv))
  · have hc : chk N L = 0 := by
      unfold moE at h
      split at h
      · next h0 => exact h0
      · next h0 => exact absurd h h0
    obtain ⟨_, _, _, k4⟩ := chk_zero hc
    have hs : (rds (trn (nat L)) N rs0).l = none := by
      cases e : (rds (trn (nat L)) N rs0).l with
      | none => rfl
      | some v =>
        exfalso
        unfold moE at h
        rw [if_pos hc] at h
        split at h
        · omega
        · have hsl : slE N (L.map trq) = 90 := by unfold slE; rw [nat_trq, if_neg (by rw [e]; simp)]
          rw [Int.toNat_natCast, hsl, if_neg (by decide)] at h
          omega
    have hK := kps_of (trn_abt (nat_abt k4)) hs
    have := trn_kps most hK
    rw [trn_trn] at this
    unfold moX
    rw [Int.toNat_natCast, nat_trq]
    exact this
/-- Numbers of a row keep the bounds, as Keeps tells it. -/
theorem keeps_row {N : Nat} {L : List Bq} {x : Nat → Int} (hc : chk N L = 0) (hK : Kps (nat L) x) (hb : ∀ v, v < N → -1099511627776 ≤ x v ∧ x v ≤ 1099511627776) : kpN (rowN N x) L = -1 ∧ kpE (rowN N x) L = 0 := by
  obtain ⟨_, h2, _, h4⟩ := chk_zero hc
  have hE : kpE (rowN N x) L = 0 := by
    unfold kpE
    have : chkN (rowN N x) = 0 := by
      unfold chkN
      rw [rowN_len, if_neg (by omega), if_pos]
      rw [List.all_eq_true]
      intro z hz
      unfold rowN at hz
      obtain ⟨v, hv, rfl⟩ := List.mem_map.1 hz
      have := hb v (List.mem_range.1 hv)
      unfold nuB
      simp only [Bool.and_eq_true, decide_eq_true_eq]
      exact this
    rw [if_pos this, rowN_len]
    exact hc
  refine ⟨?_, hE⟩
  unfold kpN
  rw [if_pos hE]
  refine all_kpA fun b hbm => ?_
  have hab := nat_abt h4 b hbm
  have e : ∀ v, v < N → atF (rowN N x) v = x v := fun v hv => by
    unfold atF
    rw [List.getD_eq_getElem?_getD, rowN_at x hv]
    rfl
  rw [e _ hab.1, e _ hab.2]
  exact hK b hbm
/-- The tight bounds, as numbers from 0 on. -/
def tgN (x : Nat → Int) : Nat → List Bn → List Nat
  | _, [] => []
  | i, b :: t => if x b.b = x b.a + b.f then i :: tgN x (i + 1) t else tgN x (i + 1) t
theorem tgA_toI (x : Nat → Int) : ∀ (i : Nat) (l : List Bn), tgA x i l = toI (tgN x i l)
  | _, [] => rfl
  | i, b :: t => by
    rw [tgA, tgN]
    split
    · rw [tgA_toI x (i + 1) t]; simp [toI]
    · exact tgA_toI x (i + 1) t
theorem tgN_mem (x : Nat → Int) : ∀ (i : Nat) (l : List Bn) (k : Nat), k ∈ tgN x i l ↔ i ≤ k ∧ ∃ b, l[k - i]? = some b ∧ x b.b = x b.a + b.f
  | i, [], k => by simp [tgN]
  | i, b :: t, k => by
    have ih := tgN_mem x (i + 1) t k
    rw [tgN]
    have key : (k ∈ tgN x (i + 1) t) ↔ i < k ∧ ∃ c, (b :: t)[k - i]? = some c ∧ x c.b = x c.a + c.f := by
      rw [ih]
      constructor
      · rintro ⟨h1, c, h2, h3⟩
        refine ⟨h1, c, ?_, h3⟩
        rw [show k - i = (k - (i + 1)) + 1 by omega, List.getElem?_cons_succ]
        exact h2
      · rintro ⟨h1, c, h2, h3⟩
        refine ⟨h1, c, ?_, h3⟩
        rw [show k - i = (k - (i + 1)) + 1 by omega, List.getElem?_cons_succ] at h2
        exact h2
    split
    · next hc =>
      rw [List.mem_cons, key]
      constructor
      · rintro (rfl | ⟨h1, h2⟩)
        · exact ⟨Nat.le_refl _, b, by simp, hc⟩
        · exact ⟨by omega, h2⟩
      · rintro ⟨h1, h2⟩
        by_cases e : k = i
        · exact .inl e
        · exact .inr ⟨by omega, h2⟩
    · next hc =>
      rw [key]
      constructor
      · rintro ⟨h1, h2⟩; exact ⟨by omega, h2⟩
      · rintro ⟨h1, c, h2, h3⟩
        by_cases e : k = i
        · subst e
          rw [Nat.sub_self, List.getElem?_cons_zero] at h2
          injection h2 with h2
          subst h2
          exact absurd h3 hc
        · exact ⟨by omega, c, h2, h3⟩
theorem tgN_inc (x : Nat → Int) : ∀ (i : Nat) (l : List Bn), (tgN x i l).Pairwise (· < ·)
  | _, [] => List.Pairwise.nil
  | i, b :: t => by
    rw [tgN]
    split
    · refine List.Pairwise.cons (fun k hk => ?_) (tgN_inc x (i + 1) t)
      have := ((tgN_mem x (i + 1) t k).1 hk).1
      omega
    · exact tgN_inc x (i + 1) t
/-- Which numbers are held up by the first j tight bounds. -/
def hdB (L : List Bn) (T : List Nat) (j v : Nat) : Bool := (T.take j).any fun k => match L[k]? with
  | some b => b.b == v
  | none => false
theorem hd_succ (L : List Bn) {T : List Nat} {j k : Nat} {b : Bn} (v : Nat) (h1 : T[j]? = some k) (h2 : L[k]? = some b) : hdB L T (j + 1) v = (hdB L T j v || b.b == v) := by
  unfold hdB
  have hl := (List.getElem?_eq_some_iff.1 h1).1
  rw [← List.take_append_getElem hl, List.any_append]
  rw [List.getElem?_eq_getElem hl] at h1
  injection h1 with h1
  rw [h1]
  simp [h2]
theorem hd_all {N : Nat} {L : List Bn} (hK : Kps L (rds L N rs0).x) {v : Nat} (hv : 0 < (rds L N rs0).x v) : hdB L (tgN (rds L N rs0).x 0 L) (tgN (rds L N rs0).x 0 L).length v = true := by
  obtain ⟨i, b, h1, h2, h3⟩ := held hK hv
  unfold hdB
  rw [List.take_length, List.any_eq_true]
  refine ⟨i, (tgN_mem _ 0 L i).2 ⟨Nat.zero_le _, b, by simpa using h1, by rw [h2]; exact h3⟩, ?_⟩
  rw [h1]
  simp [h2]

end Go.Proofs.Ytjamkbhplejolaa
