/-
  LeastBelow, the plain part in the words of the walk.
-/
import Derived.Test.YtjamkbhplejolaaLBp
namespace Go.Proofs.Ytjamkbhplejolaa
open Go.RowKit

/-- A slice and an error answered: the slice has m numbers. -/
def Sl (W w' : World) (xs : List Int) (m : Nat) (er : Int) (e : Ending) : Prop := ∃ ov cv, e = .returned (.tuple #[.slice ov m cv, .int .i64 er]) ∧ Hid (Below W.heap.size W w' ∧ IS w' (.slice ov m cv) xs ∧ (0 < m → ∃ g o, ov = some ⟨g, o, none⟩ ∧ g < w'.heap.size ∧ ∀ i, i < m → w'.cell? ⟨g, o + i, none⟩ = some (.int .i64 (atF xs i))))
theorem sl_of {W w' : World} {xs : List Int} {m : Nat} {er : Int} {e : Ending} (hm : m = xs.length) (h : AnsI W xs er e w') : Sl W w' xs m er e := by
  obtain ⟨v, rfl, H⟩ := h
  obtain ⟨ov, cv, rfl, _, hg⟩ := is_at H.out.1.is
  subst hm
  exact ⟨ov, cv, rfl, H.out.2, H.out.1.is, hg⟩
theorem row_atF {N : Nat} {x : Nat → Int} {v : Nat} (hv : v < N) : atF (rowN N x) v = x v := by
  unfold atF
  rw [List.getD_eq_getElem?_getD, rowN_at x hv]
  rfl
theorem kps_in {N : Nat} {L : List Bn} (hab : Abt N L) {y : Nat → Int} (hK : Kps L y) : Kps L fun v => if v < N then y v else 0 := by
  intro b hb
  have h := hab b hb
  have := hK b hb
  simp only [if_pos h.1, if_pos h.2]
  exact this

/-- What holds where there are least numbers. -/
theorem below_zero {xs : List Int} {L : List Bq} (hn : xs.length ≤ 200) (hl : L.length ≤ 400) (he : solE xs.length L = 0) :
    ∃ T : List Nat, tgL xs.length L = toI T ∧ (solL xs.length L).length = xs.length ∧ T.length ≤ 400 ∧
      (∀ i, i < xs.length → 0 ≤ atF (solL xs.length L) i ∧ (0 < atF (solL xs.length L) i → hdB (nat L) T T.length i = true) ∧ (finB xs L = true → atF (solL xs.length L) i ≤ atF xs i)) ∧
      (∀ j k : Nat, T[j]? = some k → k < L.length) ∧ (∀ j k m : Nat, T[j]? = some k → T[j + 1]? = some m → k < m) ∧
      kpN (solL xs.length L) L = -1 ∧ kpE (solL xs.length L) L = 0 ∧ ∀ q ∈ L, okQ xs.length q = true := by
  obtain ⟨h0, h1, h2⟩ := solE_zero he
  rw [Int.toNat_natCast] at h1 h2
  obtain ⟨_, _, _, h4⟩ := chk_zero h0
  have hab := nat_abt h4
  have hK := kps_of hab h1
  have hx0 : ∀ v, 0 ≤ (rds (nat L) xs.length rs0).x v := fun v => (rds_bound (by omega) (by omega) h4 v).1
  rw [h2]
  refine ⟨tgN (rds (nat L) xs.length rs0).x 0 (nat L), ?_, rowN_len _ _, ?_, fun i hi => ?_, fun j k h => ?_, fun j k m h h' => ?_, ?_⟩
  · unfold tgL
    rw [if_pos he, Int.toNat_natCast, tgA_toI]
  · have := tgA_len (rds (nat L) xs.length rs0).x 0 (nat L)
    rw [tgA_toI, toI_len, nat_len] at this
    omega
  · rw [row_atF hi]
    exact ⟨hx0 i, fun h => hd_all hK h, fun h => sol_below h i⟩
  · obtain ⟨_, b, h3, _⟩ := (tgN_mem _ 0 (nat L) k).1 (List.mem_of_getElem? h)
    have := (List.getElem?_eq_some_iff.1 h3).1
    rw [nat_len] at this
    omega
  · have hp := tgN_inc (rds (nat L) xs.length rs0).x 0 (nat L)
    rw [List.pairwise_iff_getElem] at hp
    obtain ⟨l1, e1⟩ := List.getElem?_eq_some_iff.1 h
    obtain ⟨l2, e2⟩ := List.getElem?_eq_some_iff.1 h'
    have := hp j (j + 1) l1 l2 (by omega)
    rw [e1, e2] at this
    exact this
  · have hb : ∀ v, v < xs.length → -1099511627776 ≤ (rds (nat L) xs.length rs0).x v ∧ (rds (nat L) xs.length rs0).x v ≤ 1099511627776 := by
      intro v _
      have a1 := hx0 v
      have a2 := rds_bd (nat_far h4) (k := xs.length) (s := rs0) (M := 0) (fun _ => Int.le_refl _) v
      rw [nat_len] at a2
      have a3 : (xs.length : Int) * (L.length * 1048576) ≤ 200 * (400 * 1048576) := Int.mul_le_mul (by omega) (by omega) (by omega) (by omega)
      omega
    have := keeps_row h0 hK hb
    exact ⟨this.1, this.2, h4⟩
/-- What holds where there are greatest numbers. -/
theorem below_most {xs : List Int} {L : List Bq} {most : Int} (he : solE xs.length L = 0) (hm : moE xs.length L most = 0) :
    (moL xs.length L most).length = xs.length ∧ kpN (moL xs.length L most) L = -1 ∧ kpE (moL xs.length L most) L = 0 ∧
      ∀ i, i < xs.length → atF (moL xs.length L most) i ≤ most ∧ atF (solL xs.length L) i ≤ atF (moL xs.length L most) i ∧ (undB xs L most = true → atF xs i ≤ atF (moL xs.length L most) i) := by
  obtain ⟨N, hN, h1, h2, h3, h4, h5, h6, h7⟩ := mo_facts hm
  obtain rfl : xs.length = N := by omega
  obtain ⟨h0, k1, k2⟩ := solE_zero he
  rw [Int.toNat_natCast] at k1 k2
  obtain ⟨_, _, _, k4⟩ := chk_zero h0
  have hab := nat_abt k4
  rw [h4, k2]
  have hb : ∀ v, v < xs.length → -1099511627776 ≤ most - moX xs.length L v ∧ most - moX xs.length L v ≤ 1099511627776 := fun v hv => by
    have := h5 v
    have := h6 v hv
    omega
  have hk := keeps_row h0 h7 hb
  refine ⟨rowN_len _ _, hk.1, hk.2, fun i hi => ?_⟩
  rw [row_atF hi, row_atF hi]
  refine ⟨by have := h5 i; omega, ?_, fun hu => ?_⟩
  · have := rds_le (kps_in hab h7) (k := xs.length) (s := rs0) (fun v => by
      show (0 : Int) ≤ _
      split
      · next hv => have := h6 v hv; omega
      · exact Int.le_refl _) i
    simpa [hi] using this
  · have := und_mo hu i hi
    omega
theorem mo_nil {n : Int} {L : List Bq} {most : Int} (h : ¬ moE n L most = 0) : moL n L most = [] := by
  unfold moL
  rw [if_neg h]
theorem sol_nil {N : Nat} {L : List Bq} (he : ¬ solE N L = 0) : solL N L = [] := by
  unfold solL
  split
  · next h0 =>
    unfold slL
    rw [if_neg]
    intro hl
    exact he (solE_of h0 (by rw [Int.toNat_natCast] at hl ⊢; exact hl))
  · rfl

end Go.Proofs.Ytjamkbhplejolaa
