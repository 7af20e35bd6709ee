/-
  The loop as a list of bounds, begun with the least.
-/
import Derived.Test.YtjamkbhplejolaaLP3
namespace Go.Proofs.Ytjamkbhplejolaa

/-- Where the least number of a list stands first. -/
def mnN (R : List Nat) : Nat := R.findIdx fun x => R.all fun y => decide (x ≤ y)
theorem mn_ex : ∀ (R : List Nat), R ≠ [] → ∃ x ∈ R, ∀ y ∈ R, x ≤ y
  | [], h => absurd rfl h
  | [a], _ => ⟨a, by simp, by simp⟩
  | a :: b :: t, _ => by
    obtain ⟨x, hx, h⟩ := mn_ex (b :: t) (by simp)
    by_cases c : a ≤ x
    · exact ⟨a, by simp, fun y hy => by
        rcases List.mem_cons.1 hy with rfl | hy
        · exact Nat.le_refl _
        · exact Nat.le_trans c (h y hy)⟩
    · exact ⟨x, by simp [hx], fun y hy => by
        rcases List.mem_cons.1 hy with rfl | hy
        · omega
        · exact h y hy⟩
theorem mnN_lt {R : List Nat} (h : R ≠ []) : mnN R < R.length := by
  unfold mnN
  obtain ⟨x, hx, hm⟩ := mn_ex R h
  exact List.findIdx_lt_length_of_exists ⟨x, hx, by rw [List.all_eq_true]; exact fun y hy => decide_eq_true (hm y hy)⟩
theorem mnN_le {R : List Nat} (h : mnN R < R.length) : ∀ y ∈ R, R[mnN R] ≤ y := by
  have := List.findIdx_getElem (p := fun x => R.all fun y => decide (x ≤ y)) (xs := R) (w := h)
  rw [List.all_eq_true] at this
  exact fun y hy => of_decide_eq_true (this y hy)
theorem mnN_first {R : List Nat} (h : mnN R < R.length) {j : Nat} (hj : j < mnN R) : R[j]'(by omega) ≠ R[mnN R] := by
  intro e
  have := List.not_of_lt_findIdx (p := fun x => R.all fun y => decide (x ≤ y)) (xs := R) hj
  rw [Bool.eq_false_iff] at this
  apply this
  rw [List.all_eq_true]
  intro y hy
  rw [e]
  exact decide_eq_true (mnN_le h y hy)
/-- A list, begun with its least number. -/
def rotN (R : List Nat) : List Nat := R.drop (mnN R) ++ R.take (mnN R)
theorem rotN_len (R : List Nat) : (rotN R).length = R.length := by
  unfold rotN
  simp
  omega
theorem rotN_at {R : List Nat} (h : R ≠ []) {i : Nat} (hi : i < R.length) : (rotN R)[i]? = R[(mnN R + i) % R.length]? := by
  have hm := mnN_lt h
  unfold rotN
  by_cases c : mnN R + i < R.length
  · rw [List.getElem?_append_left (by simp; omega), List.getElem?_drop, Nat.mod_eq_of_lt c]
  · rw [List.getElem?_append_right (by simp; omega)]
    have e : (mnN R + i) % R.length = mnN R + i - R.length := by
      rw [Nat.mod_eq_sub_mod (by omega), Nat.mod_eq_of_lt (by omega)]
    rw [e, List.getElem?_take_of_lt (by simp; omega)]
    congr 1
    simp
    omega
def lopU (L : List Bn) (s : Rs) (N v : Nat) : Nat := (stp L s N v).getD 0
def lopP (L : List Bn) (s : Rs) (N v : Nat) : Nat := ((List.range N).find? fun i => decide (stp L s (i + 1) (lopU L s N v) = some (lopU L s N v))).getD 0 + 1
/-- The bounds that one went over, back. -/
def bakL (L : List Bn) (s : Rs) (N v : Nat) : List Nat := bck L s (lopP L s N v) (lopU L s N v)
/-- What is known of the loop. -/
structure Lpf (L : List Bn) (s : Rs) (N v u p : Nat) : Prop where
  way : stp L s N v = some u
  un : u < N
  p0 : 0 < p
  pn : p ≤ N
  back : stp L s p u = some u
  first : ∀ q, 0 < q → q < p → stp L s q u ≠ some u
  sum : 0 < sumF L s p u
  bb : ∀ v b, prd L s v = some b → b.b = v
theorem find_first {p : Nat → Bool} {N k : Nat} (hk : k < N) (h : p k = true) (hf : ∀ j, j < k → p j = false) : (List.range N).find? p = some k := by
  rw [List.find?_eq_some_iff_append]
  refine ⟨h, List.range k, (List.range N).drop (k + 1), ?_, fun a ha => by rw [hf a (List.mem_range.1 ha)]; rfl⟩
  refine List.ext_getElem? fun i => ?_
  by_cases c1 : i < k
  · rw [List.getElem?_append_left (by simpa using c1)]
    simp [c1, show i < N by omega]
  · rw [List.getElem?_append_right (by simp; omega)]
    simp only [List.length_range]
    by_cases c2 : i = k
    · subst c2; simp [hk]
    · obtain ⟨m, hm⟩ : ∃ m, i - k = m + 1 := ⟨i - k - 1, by omega⟩
      rw [hm, List.getElem?_cons_succ, List.getElem?_drop]
      congr 1
      omega
theorem lpf_of {N : Nat} {L : List Bn} (hn : Abt N L) {v : Nat} (hv : (rds L N rs0).l = some v) (h0 : 0 < N) : Lpf L (rds L N rs0) N v (lopU L (rds L N rs0) N v) (lopP L (rds L N rs0) N v) := by
  obtain ⟨u, p, h1, h2, h3, h4, h5, h6, h7⟩ := loop_there hn hv h0
  obtain ⟨r, hI, _⟩ := rds_inv N 0 (inv_start L) v hv h0
  have eu : lopU L (rds L N rs0) N v = u := by unfold lopU; rw [h1]; rfl
  have ep : lopP L (rds L N rs0) N v = p := by
    unfold lopP
    rw [eu, find_first (k := p - 1) (by omega) (decide_eq_true (by rw [show p - 1 + 1 = p by omega]; exact h5)) (fun j hj => decide_eq_false (h6 (j + 1) (by omega) (by omega)))]
    show p - 1 + 1 = p
    omega
  rw [eu, ep]
  exact ⟨h1, h2, h3, h4, h5, h6, h7, fun v b hp => (inv_prd hI hp).1⟩
theorem stp_pre {L : List Bn} {s : Rs} {q v u : Nat} (h : stp L s q v = some u) {j : Nat} (hj : j < q) : ∃ (x i : Nat) (b : Bn), stp L s j v = some x ∧ s.m x = some i ∧ L[i]? = some b ∧ stp L s (j + 1) v = some b.a := by
  have e : q = j + (q - j) := by omega
  rw [e, stp_add] at h
  obtain ⟨x, hx, h⟩ := Option.bind_eq_some_iff.1 h
  obtain ⟨m, hm⟩ : ∃ m, q - j = m + 1 := ⟨q - j - 1, by omega⟩
  rw [hm, stp] at h
  obtain ⟨b, hb, _⟩ := Option.bind_eq_some_iff.1 h
  obtain ⟨i, h1, h2⟩ := prd_some hb
  refine ⟨x, i, b, hx, h1, h2, ?_⟩
  rw [stp_add, hx]
  show stp L s 1 x = _
  rw [stp, hb]
  rfl
theorem bck_snoc {L : List Bn} {s : Rs} : ∀ (q v x i : Nat) (b : Bn), stp L s q v = some x → s.m x = some i → L[i]? = some b → bck L s (q + 1) v = bck L s q v ++ [i]
  | 0, v, x, i, b, h, h1, h2 => by
    simp only [stp, Option.some.injEq] at h
    subst h
    rw [bck_cons h1 h2]
    rfl
  | q + 1, v, x, i, b, h, h1, h2 => by
    rw [stp] at h
    obtain ⟨c, hc, h⟩ := Option.bind_eq_some_iff.1 h
    obtain ⟨k, k1, k2⟩ := prd_some hc
    rw [bck_cons k1 k2, bck_cons k1 k2, bck_snoc q c.a x i b h h1 h2]
    rfl
theorem stp_uniq {L : List Bn} {s : Rs} {N v u p : Nat} (h : Lpf L s N v u p) {i j : Nat} (hi : i < p) (hj : j < p) {x : Nat} (h1 : stp L s i u = some x) (h2 : stp L s j u = some x) : i = j := by
  rcases Nat.lt_trichotomy i j with c | c | c
  · exact absurd h2 (stp_apart h.back h.first c hj h1)
  · exact c
  · exact absurd h1 (stp_apart h.back h.first c hi h2)
/-- Each bound of the way back stands there once. -/
theorem bck_uniq {L : List Bn} {s : Rs} {N v u p : Nat} (h : Lpf L s N v u p) {i j : Nat} (hi : i < p) (hj : j < p) {k : Nat} (h1 : (bck L s p u)[i]? = some k) (h2 : (bck L s p u)[j]? = some k) : i = j := by
  obtain ⟨a, b, e1, e2, e3, _⟩ := bck_at h.bb p u u i h.back hi
  obtain ⟨a', b', f1, f2, f3, _⟩ := bck_at h.bb p u u j h.back hj
  rw [h1] at e1
  rw [h2] at f1
  injection e1 with e1
  injection f1 with f1
  subst e1
  rw [← f1, e2] at f2
  injection f2 with f2
  subst f2
  exact stp_uniq h hi hj e3 f3
/-- The loop's bounds, the other way round, begun with the least. -/
def lopN (L : List Bn) (s : Rs) (N v : Nat) : List Nat := rotN (bakL L s N v).reverse
/-- What the document says, place by place. -/
theorem rot_doc {B : List Nat} {b : Nat} (hb : b < B.length) (hm : ∀ j (h : j < B.length), B[b] ≤ B[j]) (hu : ∀ (i j k : Nat), B[i]? = some k → B[j]? = some k → i = j) : ∀ i : Nat, i < B.length → (rotN B.reverse)[i]? = B[(b + B.length - i) % B.length]? := by
  intro i hi
  have hne : B.reverse ≠ [] := by
    intro e
    have := congrArg List.length e
    simp at this
    rw [this] at hb
    simp at hb
  have hl : B.reverse.length = B.length := List.length_reverse
  rw [rotN_at hne (by rw [hl]; exact hi), hl]
  have hmn := mnN_lt hne
  rw [hl] at hmn
  have ef : mnN B.reverse = B.length - 1 - b := by
    have h1 := mnN_le (R := B.reverse) (by rw [hl]; exact hmn) B[b] (by simp)
    have e1 : B.reverse[mnN B.reverse]'(by rw [hl]; exact hmn) = B[B.length - 1 - mnN B.reverse]'(by omega) := by rw [List.getElem_reverse]
    rw [e1] at h1
    have h2 := hm (B.length - 1 - mnN B.reverse) (by omega)
    have := hu b (B.length - 1 - mnN B.reverse) B[b] (List.getElem?_eq_getElem hb) (by rw [List.getElem?_eq_getElem (by omega)]; congr 1; omega)
    omega
  rw [ef, List.getElem?_reverse (by exact Nat.mod_lt _ (by omega))]
  congr 1
  by_cases c : B.length - 1 - b + i < B.length
  · rw [Nat.mod_eq_of_lt c]
    by_cases d : b + B.length - i < B.length
    · omega
    · rw [Nat.mod_eq_sub_mod (by omega), Nat.mod_eq_of_lt (by omega)]
      omega
  · rw [Nat.mod_eq_sub_mod (by omega), Nat.mod_eq_of_lt (by omega), Nat.mod_eq_of_lt (by omega)]
    omega

end Go.Proofs.Ytjamkbhplejolaa
