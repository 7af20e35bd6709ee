/-
  Bounds and rounds in plain words: rows of numbers, how great they get, tight bounds, bounds turned round, the loop as a list.
-/
import Derived.Test.YtjamkbhplejolaaLP
namespace Go.Proofs.Ytjamkbhplejolaa

/-- The first n numbers, as a list. -/
def rowN {α : Type} (n : Nat) (g : Nat → α) : List α := (List.range n).map g
theorem rowN_len {α : Type} (n : Nat) (g : Nat → α) : (rowN n g).length = n := by simp [rowN]
theorem rowN_at {α : Type} {n : Nat} (g : Nat → α) {k : Nat} (h : k < n) : (rowN n g)[k]? = some (g k) := by simp [rowN, h]
theorem rowN_set {α : Type} {n : Nat} (g : Nat → α) (k : Nat) (v : α) : (rowN n g).set k v = rowN n (setN g k v) := by
  refine List.ext_getElem? fun i => ?_
  rw [List.getElem?_set]
  unfold rowN setN
  by_cases hi : i < n
  · by_cases c : k = i
    · subst c; simp [hi]
    · rw [if_neg c]
      have c' : ¬ i = k := fun e => c e.symm
      simp [hi, c']
  · by_cases c : k = i
    · subst c; simp [hi]
    · rw [if_neg c]; simp [hi]
theorem rowN_congr {α : Type} {n : Nat} {g h : Nat → α} (e : ∀ k, k < n → g k = h k) : rowN n g = rowN n h := by
  unfold rowN
  exact List.map_congr_left fun k hk => e k (List.mem_range.1 hk)
/-- By which bound a number was made, as a number. -/
def madI (m : Nat → Option Nat) (v : Nat) : Int := match m v with
  | some i => i
  | none => -1
theorem madI_set (m : Nat → Option Nat) (k i : Nat) : madI (setN m k (some i)) = setN (madI m) k (i : Int) := by
  funext v
  unfold madI setN
  split
  · next h => split at h <;> simp_all
  · next h => split at h <;> simp_all
/-- Fars that are not too far. -/
def Far (L : List Bn) : Prop := ∀ b ∈ L, -1048576 ≤ b.f ∧ b.f ≤ 1048576
theorem relax_bd {i : Nat} {b : Bn} {s : Rs} {M : Int} (hf : b.f ≤ 1048576) (h : ∀ v, s.x v ≤ M) : ∀ v, (relax i b s).x v ≤ M + 1048576 := by
  intro v
  have hv := h v
  have ha := h b.a
  unfold relax
  split
  · show setN _ _ _ _ ≤ _
    by_cases c : v = b.b
    · subst c; rw [setN_same]; omega
    · rw [setN_ne _ _ c]; omega
  · omega
theorem rnd_bd : ∀ {L : List Bn} {i : Nat} {s : Rs} {M : Int}, Far L → (∀ v, s.x v ≤ M) → ∀ v, (rnd L i s).x v ≤ M + L.length * 1048576
  | [], _, _, _, _, h, v => by have := h v; simpa [rnd] using this
  | b :: t, i, s, M, hf, h, v => by
    have := rnd_bd (L := t) (i := i + 1) (fun c hc => hf c (by simp [hc])) (relax_bd (i := i) (hf b (by simp)).2 h) v
    rw [rnd, List.length_cons]
    omega
theorem rds_bd {L : List Bn} (hf : Far L) : ∀ {k : Nat} {s : Rs} {M : Int}, (∀ v, s.x v ≤ M) → ∀ v, (rds L k s).x v ≤ M + k * (L.length * 1048576)
  | 0, _, _, h, v => by have := h v; simpa [rds] using this
  | k + 1, s, M, h, v => by
    have h1 : ∀ v, (rnd L 0 ⟨s.x, s.m, none⟩).x v ≤ M + L.length * 1048576 := rnd_bd hf h
    have e : ((k + 1 : Nat) : Int) * (L.length * 1048576) = L.length * 1048576 + k * (L.length * 1048576) := by
      rw [Int.natCast_add, Int.add_mul, Int.add_comm]
      simp
    have h0 : (0 : Int) ≤ k * (L.length * 1048576) := Int.mul_nonneg (by omega) (by omega)
    rw [rds, e]
    split
    · have := h1 v; omega
    · have := rds_bd hf (k := k) h1 v; omega
theorem rds_inv_any {L : List Bn} : ∀ (q k : Nat) {r : Nat → Nat} {s : Rs}, Inv L k L.length r s → ∃ k' r', Inv L k' L.length r' (rds L q s)
  | 0, k, r, s, h => ⟨k, r, h⟩
  | q + 1, k, r, s, h => by
    rw [rds]
    obtain ⟨r1, h1, _⟩ := rnd_inv (Nat.succ_pos k) L (by rw [List.drop_zero]) (inv_next h) (fun v hv => by cases hv)
    rw [Nat.zero_add] at h1
    split
    · exact ⟨_, _, h1⟩
    · exact rds_inv_any q (k + 1) h1
/-- Each number above 0 is held up by a bound that is kept just so. -/
theorem held {n : Nat} {L : List Bn} (hk : Kps L (rds L n rs0).x) {v : Nat} (hv : 0 < (rds L n rs0).x v) : ∃ (i : Nat) (b : Bn), L[i]? = some b ∧ b.b = v ∧ (rds L n rs0).x v = (rds L n rs0).x b.a + b.f := by
  obtain ⟨k, r, h⟩ := rds_inv_any n 0 (inv_start L)
  have hr : 0 < r v := by
    rcases Nat.eq_zero_or_pos (r v) with c | c
    · have := (h.no v c).2; omega
    · exact c
  obtain ⟨i, b, _, h2, h3, h4, _⟩ := h.yes v hr
  refine ⟨i, b, h2, h3, ?_⟩
  have := hk b (List.mem_of_getElem? h2)
  rw [h3] at this
  omega
/-- Bounds turned round. -/
def trn (L : List Bn) : List Bn := L.map fun b => ⟨b.b, b.a, b.f⟩
theorem trn_kps {L : List Bn} {y : Nat → Int} (c : Int) (h : Kps L y) : Kps (trn L) fun v => c - y v := by
  intro b hb
  unfold trn at hb
  obtain ⟨d, hd, rfl⟩ := List.mem_map.1 hb
  have := h d hd
  show c - y d.b + d.f ≤ c - y d.a
  omega
theorem trn_trn (L : List Bn) : trn (trn L) = L := by
  unfold trn
  rw [List.map_map]
  exact List.map_id'' (fun b => rfl) L
theorem trn_abt {n : Nat} {L : List Bn} (h : Abt n L) : Abt n (trn L) := by
  intro b hb
  unfold trn at hb
  obtain ⟨d, hd, rfl⟩ := List.mem_map.1 hb
  exact ⟨(h d hd).2, (h d hd).1⟩
theorem trn_far {L : List Bn} (h : Far L) : Far (trn L) := by
  intro b hb
  unfold trn at hb
  obtain ⟨d, hd, rfl⟩ := List.mem_map.1 hb
  exact h d hd
/-- Bounds have numbers that keep them just if those turned round have. -/
theorem trn_ok {n : Nat} {L : List Bn} (hn : Abt n L) (h0 : 0 < n) : (rds L n rs0).l = none ↔ (rds (trn L) n rs0).l = none := by
  constructor
  · intro h
    exact (rds_least (trn_abt hn) h0 (trn_kps 0 (rds_kept h0 h))).1
  · intro h
    have := trn_kps 0 (rds_kept (L := trn L) h0 h)
    rw [trn_trn] at this
    exact (rds_least hn h0 this).1
/-- The bounds of a way back, one behind the other. -/
def bck (L : List Bn) (s : Rs) : Nat → Nat → List Nat
  | 0, _ => []
  | q + 1, v => match s.m v with
    | some i => i :: (match L[i]? with
      | some b => bck L s q b.a
      | none => [])
    | none => []
theorem bck_cons {L : List Bn} {s : Rs} {v i : Nat} {b : Bn} (h1 : s.m v = some i) (h2 : L[i]? = some b) (q : Nat) : bck L s (q + 1) v = i :: bck L s q b.a := by
  rw [bck, h1]
  simp only [h2]
theorem prd_some {L : List Bn} {s : Rs} {v : Nat} {b : Bn} (h : prd L s v = some b) : ∃ i, s.m v = some i ∧ L[i]? = some b := by
  unfold prd at h
  obtain ⟨i, h1, h2⟩ := Option.bind_eq_some_iff.1 h
  exact ⟨i, h1, h2⟩
theorem bck_len {L : List Bn} {s : Rs} : ∀ (q v u : Nat), stp L s q v = some u → (bck L s q v).length = q
  | 0, _, _, _ => rfl
  | q + 1, v, u, h => by
    rw [stp] at h
    obtain ⟨b, hb, h⟩ := Option.bind_eq_some_iff.1 h
    obtain ⟨i, h1, h2⟩ := prd_some hb
    rw [bck_cons h1 h2, List.length_cons, bck_len q b.a u h]
/-- The t-th bound of the way back leads from the (t+1)-th number to the t-th. -/
theorem bck_at {L : List Bn} {s : Rs} (hs : ∀ v b, prd L s v = some b → b.b = v) : ∀ (q v u t : Nat), stp L s q v = some u → t < q → ∃ (i : Nat) (b : Bn), (bck L s q v)[t]? = some i ∧ L[i]? = some b ∧ stp L s t v = some b.b ∧ stp L s (t + 1) v = some b.a
  | 0, _, _, t, _, ht => absurd ht (Nat.not_lt_zero t)
  | q + 1, v, u, t, h, ht => by
    rw [stp] at h
    obtain ⟨b, hb, h⟩ := Option.bind_eq_some_iff.1 h
    obtain ⟨i, h1, h2⟩ := prd_some hb
    rw [bck_cons h1 h2]
    cases t with
    | zero =>
      refine ⟨i, b, rfl, h2, ?_, ?_⟩
      · rw [hs v b hb]; rfl
      · rw [stp, hb]; rfl
    | succ t =>
      obtain ⟨j, c, h3, h4, h5, h6⟩ := bck_at hs q b.a u t h (by omega)
      refine ⟨j, c, by simpa using h3, h4, ?_, ?_⟩
      · rw [stp, hb]; exact h5
      · rw [stp, hb]; exact h6
def sumI (L : List Bn) : List Nat → Int
  | [] => 0
  | i :: t => (match L[i]? with
    | some b => b.f
    | none => 0) + sumI L t
theorem bck_sum {L : List Bn} {s : Rs} : ∀ (q v u : Nat), stp L s q v = some u → sumI L (bck L s q v) = sumF L s q v
  | 0, _, _, _ => rfl
  | q + 1, v, u, h => by
    rw [stp] at h
    obtain ⟨b, hb, h⟩ := Option.bind_eq_some_iff.1 h
    obtain ⟨i, h1, h2⟩ := prd_some hb
    rw [bck_cons h1 h2, sumI, h2, bck_sum q b.a u h, sumF, hb]
/-- In a loop that is gone round once, each number is met once. -/
theorem stp_apart {L : List Bn} {s : Rs} {u p : Nat} (hp : stp L s p u = some u) (hm : ∀ q, 0 < q → q < p → stp L s q u ≠ some u) {i j : Nat} (hij : i < j) (hj : j < p) {v : Nat} (hi : stp L s i u = some v) : stp L s j u ≠ some v := by
  intro h
  have e1 : stp L s (p - j) v = some u := by
    have e : p = j + (p - j) := by omega
    rw [e, stp_add, h] at hp
    exact hp
  refine hm (i + (p - j)) (by omega) (by omega) ?_
  rw [stp_add, hi]
  exact e1

end Go.Proofs.Ytjamkbhplejolaa
