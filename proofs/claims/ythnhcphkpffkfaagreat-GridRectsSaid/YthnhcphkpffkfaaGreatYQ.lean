/-
  The grid in plain lists.
-/
import Derived.Test.YthnhcphkpffkfaaGreatLP2
import Derived.Test.YthnhcphkpffkfaaGreatXP5
namespace Go.Proofs.YthnhcphkpffkfaaGreat

/-- How many columns a thing spans. -/
def wdN (n : Nat) (s : Int) : Nat := min (max s 1).toNat n
theorem wdN_bd {n : Nat} (h : 0 < n) (s : Int) : 1 ≤ wdN n s ∧ wdN n s ≤ n := by unfold wdN; omega
/-- A cell: the first column, the row, how many columns. -/
structure Cl where
  x : Nat
  y : Nat
  k : Nat
def nxC (n x y : Nat) (s : Int) : Cl := if n < x + wdN n s then ⟨0, y + 1, wdN n s⟩ else ⟨x, y, wdN n s⟩
theorem nxC_k (n x y : Nat) (s : Int) : (nxC n x y s).k = wdN n s := by unfold nxC; split <;> rfl
theorem nxC_in {n x y : Nat} (h : 0 < n) (s : Int) : (nxC n x y s).x + (nxC n x y s).k ≤ n ∧ 1 ≤ (nxC n x y s).k := by
  have := wdN_bd h s
  unfold nxC
  split
  · show 0 + wdN n s ≤ n ∧ 1 ≤ wdN n s; omega
  · show x + wdN n s ≤ n ∧ 1 ≤ wdN n s; omega
def celF (n : Nat) : Nat → Nat → List Int → List Cl
  | _, _, [] => []
  | x, y, s :: l => nxC n x y s :: celF n ((nxC n x y s).x + (nxC n x y s).k) (nxC n x y s).y l
/-- Where the next one comes, if it finds room in its row. -/
def celX (n : Nat) : Nat → Nat → List Int → Nat
  | x, _, [] => x
  | x, y, s :: l => celX n ((nxC n x y s).x + (nxC n x y s).k) (nxC n x y s).y l
def celY (n : Nat) : Nat → Nat → List Int → Nat
  | _, y, [] => y
  | x, y, s :: l => celY n ((nxC n x y s).x + (nxC n x y s).k) (nxC n x y s).y l
theorem celF_len (n : Nat) : ∀ (l : List Int) (x y : Nat), (celF n x y l).length = l.length
  | [], _, _ => rfl
  | s :: l, x, y => by rw [celF, List.length_cons, List.length_cons, celF_len n l]
theorem celF_snoc (n : Nat) : ∀ (l : List Int) (s : Int) (x y : Nat), celF n x y (l ++ [s]) = celF n x y l ++ [nxC n (celX n x y l) (celY n x y l) s]
  | [], _, _, _ => rfl
  | t :: l, s, x, y => by rw [List.cons_append, celF, celF_snoc n l, celF, celX, celY]; rfl
theorem celX_snoc (n : Nat) : ∀ (l : List Int) (s : Int) (x y : Nat), celX n x y (l ++ [s]) = (nxC n (celX n x y l) (celY n x y l) s).x + (nxC n (celX n x y l) (celY n x y l) s).k
  | [], _, _, _ => rfl
  | t :: l, s, x, y => by rw [List.cons_append, celX, celX_snoc n l, celX, celY]
theorem celY_snoc (n : Nat) : ∀ (l : List Int) (s : Int) (x y : Nat), celY n x y (l ++ [s]) = (nxC n (celX n x y l) (celY n x y l) s).y
  | [], _, _, _ => rfl
  | t :: l, s, x, y => by rw [List.cons_append, celY, celY_snoc n l, celX, celY]
/-- The cells of things. -/
def cel (n : Nat) (l : List Int) : List Cl := celF n 0 0 l
theorem cel_len (n : Nat) (l : List Int) : (cel n l).length = l.length := celF_len n l 0 0
theorem celF_in {n : Nat} (h : 0 < n) : ∀ (l : List Int) (x y : Nat), ∀ c ∈ celF n x y l, c.x + c.k ≤ n ∧ 1 ≤ c.k ∧ y ≤ c.y ∧ c.y ≤ celY n x y l ∧ c.y ≤ y + l.length
  | [], _, _, c, hc => by simp [celF] at hc
  | s :: l, x, y, c, hc => by
    have h1 := nxC_in (x := x) (y := y) h s
    have hy : y ≤ (nxC n x y s).y ∧ (nxC n x y s).y ≤ y + 1 := by
      unfold nxC
      split
      · show y ≤ y + 1 ∧ y + 1 ≤ y + 1; omega
      · show y ≤ y ∧ y ≤ y + 1; omega
    have hm : ∀ (l : List Int) (x y : Nat), y ≤ celY n x y l := by
      intro l
      induction l with
      | nil => intro x y; exact Nat.le_refl _
      | cons t l ih =>
        intro x y
        rw [celY]
        refine Nat.le_trans ?_ (ih _ _)
        unfold nxC
        split
        · show y ≤ y + 1; omega
        · exact Nat.le_refl _
    rw [celF] at hc
    rw [celY, List.length_cons]
    rcases List.mem_cons.1 hc with rfl | hc
    · have := hm l ((nxC n x y s).x + (nxC n x y s).k) (nxC n x y s).y
      exact ⟨h1.1, h1.2, hy.1, this, by omega⟩
    · obtain ⟨a, b, d, e, f⟩ := celF_in h l _ _ c hc
      exact ⟨a, b, by omega, e, by omega⟩
theorem celX_le {n : Nat} (h : 0 < n) : ∀ (l : List Int) (x y : Nat), x ≤ n → celX n x y l ≤ n
  | [], _, _, hx => hx
  | s :: l, x, y, _ => by rw [celX]; exact celX_le h l _ _ (nxC_in h s).1
theorem cel_in {n : Nat} (h : 0 < n) {l : List Int} {c : Cl} (hc : c ∈ cel n l) : c.x + c.k ≤ n ∧ 1 ≤ c.k ∧ c.y < l.length := by
  unfold cel at hc
  cases l with
  | nil => simp [celF] at hc
  | cons s l =>
    have e : nxC n 0 0 s = ⟨0, 0, wdN n s⟩ := by
      unfold nxC
      have := wdN_bd h s
      rw [if_neg (by omega)]
    rw [celF, e] at hc
    rcases List.mem_cons.1 hc with rfl | hc
    · have := wdN_bd h s
      exact ⟨by show 0 + wdN n s ≤ n; omega, this.1, by simp⟩
    · obtain ⟨a, b, _, _, d⟩ := celF_in h l _ _ c hc
      refine ⟨a, b, ?_⟩
      rw [List.length_cons]
      have : c.y ≤ 0 + l.length := d
      omega
/-- One cell behind another one. -/
def Aft (c d : Cl) : Prop := c.y < d.y ∨ c.y = d.y ∧ c.x + c.k ≤ d.x
theorem celF_aft {n : Nat} (h : 0 < n) : ∀ (l : List Int) (x y : Nat), ∀ d ∈ celF n x y l, y < d.y ∨ y = d.y ∧ x ≤ d.x
  | [], _, _, d, hd => by simp [celF] at hd
  | s :: l, x, y, d, hd => by
    rw [celF] at hd
    have hn : y < (nxC n x y s).y ∨ y = (nxC n x y s).y ∧ x ≤ (nxC n x y s).x := by
      unfold nxC
      split
      · exact .inl (by show y < y + 1; omega)
      · exact .inr ⟨rfl, Nat.le_refl _⟩
    rcases List.mem_cons.1 hd with rfl | hd
    · exact hn
    · have := celF_aft h l _ _ d hd
      omega
theorem celF_apart {n : Nat} (h : 0 < n) : ∀ (l : List Int) (x y : Nat), (celF n x y l).Pairwise Aft
  | [], _, _ => List.Pairwise.nil
  | s :: l, x, y => by
    rw [celF]
    exact List.Pairwise.cons (fun d hd => celF_aft h l _ _ d hd) (celF_apart h l _ _)
/-- No two cells lie over one another: each lies behind those ahead of it. -/
theorem cel_apart {n : Nat} (h : 0 < n) (l : List Int) {i j : Nat} (hij : i < j) (hj : j < (cel n l).length) : Aft ((cel n l)[i]'(by omega)) (cel n l)[j] :=
  List.pairwise_iff_getElem.1 (celF_apart h l 0 0) i j (by unfold cel at hj; omega) hj hij
/-- A cell comes of the one ahead. -/
theorem celF_next {n : Nat} : ∀ (l : List Int) (x y i : Nat) (h : i + 1 < l.length), (celF n x y l)[i + 1]'(by rw [celF_len]; exact h) = nxC n (((celF n x y l)[i]'(by rw [celF_len]; omega)).x + ((celF n x y l)[i]'(by rw [celF_len]; omega)).k) ((celF n x y l)[i]'(by rw [celF_len]; omega)).y l[i + 1]
  | [], _, _, _, h => by simp at h
  | [s], _, _, i, h => by simp at h
  | s :: t :: l, x, y, 0, _ => by simp only [celF, List.getElem_cons_zero, List.getElem_cons_succ]
  | s :: t :: l, x, y, i + 1, h => by
    have := celF_next (n := n) (t :: l) ((nxC n x y s).x + (nxC n x y s).k) (nxC n x y s).y i (by simpa using h)
    simp only [celF, List.getElem_cons_succ] at this ⊢
    exact this
theorem celF_k {n : Nat} : ∀ (l : List Int) (x y i : Nat) (h : i < l.length), ((celF n x y l)[i]'(by rw [celF_len]; exact h)).k = wdN n l[i]
  | [], _, _, _, h => by simp at h
  | s :: l, x, y, 0, _ => by simp only [celF, List.getElem_cons_zero]; exact nxC_k n x y s
  | s :: l, x, y, i + 1, h => by
    simp only [celF, List.getElem_cons_succ]
    exact celF_k l _ _ i (by simpa using h)
theorem cel_next {n : Nat} (l : List Int) {i : Nat} (h : i + 1 < l.length) : (cel n l)[i + 1]'(by rw [cel_len]; exact h) = nxC n (((cel n l)[i]'(by rw [cel_len]; omega)).x + ((cel n l)[i]'(by rw [cel_len]; omega)).k) ((cel n l)[i]'(by rw [cel_len]; omega)).y l[i + 1] := celF_next l 0 0 i h
theorem cel_k {n : Nat} (l : List Int) {i : Nat} (h : i < l.length) : ((cel n l)[i]'(by rw [cel_len]; exact h)).k = wdN n l[i] := celF_k l 0 0 i h
theorem cel_take {n : Nat} (l : List Int) {i : Nat} (h : i < l.length) : cel n (l.take (i + 1)) = cel n (l.take i) ++ [nxC n (celX n 0 0 (l.take i)) (celY n 0 0 (l.take i)) l[i]] := by
  rw [List.take_succ_eq_append_getElem h]
  exact celF_snoc n _ _ 0 0

/-- The bounds of the edges. -/
def bnE (n : Nat) : List Bn := (List.range n).map fun i => ⟨i, i + 1, 0⟩
def bnC (gap : Int) (c : Cl) (m : Int) : Bn := ⟨c.x, c.x + c.k, m - ((c.k : Int) - 1) * gap⟩
def bnT (gap : Int) (C : List Cl) (ms : List Int) : List Bn := List.zipWith (bnC gap) C ms
def bnG (n : Nat) (gap : Int) (C : List Cl) (ms : List Int) : List Bn := bnE n ++ bnT gap C ms
theorem bnE_len (n : Nat) : (bnE n).length = n := by simp [bnE]
theorem bnT_len (gap : Int) (C : List Cl) (ms : List Int) (h : C.length = ms.length) : (bnT gap C ms).length = ms.length := by simp [bnT, h]
/-- What is asked of cells and least numbers. -/
structure Gri (n : Nat) (gap : Int) (C : List Cl) (ms : List Int) : Prop where
  n0 : 0 < n
  gap : 0 ≤ gap
  len : C.length = ms.length
  cel : ∀ c ∈ C, c.x + c.k ≤ n ∧ 1 ≤ c.k
  ms : ∀ m ∈ ms, 0 ≤ m ∧ m ≤ 16384
theorem bnT_mem {gap : Int} {C : List Cl} {ms : List Int} {b : Bn} (h : b ∈ bnT gap C ms) : ∃ c ∈ C, ∃ m ∈ ms, b = bnC gap c m := by
  unfold bnT at h
  obtain ⟨i, hi, e⟩ := List.mem_iff_getElem.1 h
  rw [List.getElem_zipWith] at e
  exact ⟨_, List.getElem_mem _, _, List.getElem_mem _, e.symm⟩
theorem bnE_mem {n : Nat} {b : Bn} : b ∈ bnE n ↔ ∃ i, i < n ∧ b = ⟨i, i + 1, 0⟩ := by
  unfold bnE
  rw [List.mem_map]
  constructor
  · rintro ⟨i, hi, rfl⟩; exact ⟨i, List.mem_range.1 hi, rfl⟩
  · rintro ⟨i, hi, rfl⟩; exact ⟨i, List.mem_range.2 hi, rfl⟩
theorem far_le {gap : Int} (h : 0 ≤ gap) {k : Nat} (hk : 1 ≤ k) : 0 ≤ ((k : Int) - 1) * gap := Int.mul_nonneg (by omega) h
theorem Gri.abt {n : Nat} {gap : Int} {C : List Cl} {ms : List Int} (h : Gri n gap C ms) : Abt (n + 1) (bnG n gap C ms) := by
  intro b hb
  rcases List.mem_append.1 hb with hb | hb
  · obtain ⟨i, hi, rfl⟩ := bnE_mem.1 hb
    exact ⟨by show i < n + 1; omega, by show i + 1 < n + 1; omega⟩
  · obtain ⟨c, hc, m, _, rfl⟩ := bnT_mem hb
    have := h.cel c hc
    exact ⟨by show c.x < n + 1; omega, by show c.x + c.k < n + 1; omega⟩
/-- Each bound goes up, and not far. -/
theorem Gri.up {n : Nat} {gap : Int} {C : List Cl} {ms : List Int} (h : Gri n gap C ms) : ∀ b ∈ bnG n gap C ms, b.a < b.b ∧ b.f ≤ 16384 := by
  intro b hb
  rcases List.mem_append.1 hb with hb | hb
  · obtain ⟨i, hi, rfl⟩ := bnE_mem.1 hb
    exact ⟨by show i < i + 1; omega, by show (0 : Int) ≤ 16384; omega⟩
  · obtain ⟨c, hc, m, hm, rfl⟩ := bnT_mem hb
    have h1 := h.cel c hc
    have h2 := h.ms m hm
    have h3 := far_le h.gap h1.2
    exact ⟨by show c.x < c.x + c.k; omega, by show m - ((c.k : Int) - 1) * gap ≤ 16384; omega⟩
theorem Gri.keep {n : Nat} {gap : Int} {C : List Cl} {ms : List Int} (h : Gri n gap C ms) : Kps (bnG n gap C ms) fun v => (v : Int) * 16384 := by
  intro b hb
  obtain ⟨h1, h2⟩ := h.up b hb
  show (b.a : Int) * 16384 + b.f ≤ (b.b : Int) * 16384
  omega
/-- The least edges. -/
def edG (n : Nat) (gap : Int) (C : List Cl) (ms : List Int) : Nat → Int := (rds (bnG n gap C ms) (n + 1) rs0).x
theorem Gri.ends {n : Nat} {gap : Int} {C : List Cl} {ms : List Int} (h : Gri n gap C ms) : (rds (bnG n gap C ms) (n + 1) rs0).l = none := (rds_least h.abt (Nat.succ_pos n) h.keep).1
theorem Gri.kps {n : Nat} {gap : Int} {C : List Cl} {ms : List Int} (h : Gri n gap C ms) : Kps (bnG n gap C ms) (edG n gap C ms) := (rds_least h.abt (Nat.succ_pos n) h.keep).2.1
theorem Gri.nn {n : Nat} {gap : Int} {C : List Cl} {ms : List Int} (h : Gri n gap C ms) (v : Nat) : 0 ≤ edG n gap C ms v := (rds_least h.abt (Nat.succ_pos n) h.keep).2.2.1 v
theorem Gri.least {n : Nat} {gap : Int} {C : List Cl} {ms : List Int} (h : Gri n gap C ms) {y : Nat → Int} (hk : Kps (bnG n gap C ms) y) (h0 : ∀ v, 0 ≤ y v) (v : Nat) : edG n gap C ms v ≤ y v := (rds_least h.abt (Nat.succ_pos n) hk).2.2.2 h0 v
theorem Gri.le {n : Nat} {gap : Int} {C : List Cl} {ms : List Int} (h : Gri n gap C ms) (v : Nat) : edG n gap C ms v ≤ v * 16384 := h.least h.keep (fun v => by show 0 ≤ (v : Int) * 16384; omega) v
theorem Gri.zero {n : Nat} {gap : Int} {C : List Cl} {ms : List Int} (h : Gri n gap C ms) : edG n gap C ms 0 = 0 := by
  have h1 := h.nn 0
  have h2 := h.le 0
  simp at h2
  omega
theorem Gri.rise {n : Nat} {gap : Int} {C : List Cl} {ms : List Int} (h : Gri n gap C ms) {i : Nat} (hi : i < n) : edG n gap C ms i ≤ edG n gap C ms (i + 1) := by
  have := h.kps ⟨i, i + 1, 0⟩ (List.mem_append_left _ (bnE_mem.2 ⟨i, hi, rfl⟩))
  simpa using this
theorem Gri.mono {n : Nat} {gap : Int} {C : List Cl} {ms : List Int} (h : Gri n gap C ms) {i : Nat} : ∀ {j : Nat}, i ≤ j → j ≤ n → edG n gap C ms i ≤ edG n gap C ms j
  | 0, h1, _ => by
    have : i = 0 := by omega
    subst this
    exact Int.le_refl _
  | j + 1, h1, h2 => by
    by_cases e : i = j + 1
    · subst e; exact Int.le_refl _
    · exact Int.le_trans (h.mono (j := j) (by omega) (by omega)) (h.rise (by omega))
theorem bnT_in {gap : Int} {C : List Cl} {ms : List Int} {i : Nat} (h1 : i < C.length) (h2 : i < ms.length) : bnC gap C[i] ms[i] ∈ bnT gap C ms := by
  unfold bnT
  refine List.mem_iff_getElem.2 ⟨i, by simp; omega, ?_⟩
  rw [List.getElem_zipWith]
theorem Gri.room {n : Nat} {gap : Int} {C : List Cl} {ms : List Int} (h : Gri n gap C ms) {i : Nat} (h1 : i < C.length) (h2 : i < ms.length) : edG n gap C ms C[i].x + ms[i] - ((C[i].k : Int) - 1) * gap ≤ edG n gap C ms (C[i].x + C[i].k) := by
  have := h.kps _ (List.mem_append_right _ (bnT_in (gap := gap) h1 h2))
  unfold bnC at this
  simp only at this
  omega
/-- How wide a column is. -/
def wiG (n : Nat) (gap : Int) (C : List Cl) (ms : List Int) (i : Nat) : Int := edG n gap C ms (i + 1) - edG n gap C ms i
theorem Gri.wid {n : Nat} {gap : Int} {C : List Cl} {ms : List Int} (h : Gri n gap C ms) {i : Nat} (hi : i < n) : 0 ≤ wiG n gap C ms i ∧ wiG n gap C ms i ≤ 16384 := by
  have h1 := h.rise hi
  unfold wiG
  refine ⟨by omega, ?_⟩
  by_cases c : 0 < edG n gap C ms (i + 1)
  · obtain ⟨j, b, hb, e, eq⟩ := held (n := n + 1) h.kps c
    obtain ⟨u1, u2⟩ := h.up b (List.mem_of_getElem? hb)
    have hm := h.mono (i := b.a) (j := i) (by omega) (by omega)
    have eq' : edG n gap C ms (i + 1) = edG n gap C ms b.a + b.f := eq
    omega
  · have := h.nn i
    omega
/-- A column that no thing ends in is not wide. -/
theorem Gri.none {n : Nat} {gap : Int} {C : List Cl} {ms : List Int} (h : Gri n gap C ms) {i : Nat} (hi : i < n) (hu : ∀ c ∈ C, c.x + c.k ≠ i + 1) : wiG n gap C ms i = 0 := by
  have h1 := h.rise hi
  unfold wiG
  by_cases c : 0 < edG n gap C ms (i + 1)
  · obtain ⟨j, b, hb, e, eq⟩ := held (n := n + 1) h.kps c
    have eq' : edG n gap C ms (i + 1) = edG n gap C ms b.a + b.f := eq
    rcases List.mem_append.1 (List.mem_of_getElem? hb) with hb | hb
    · obtain ⟨q, hq, rfl⟩ := bnE_mem.1 hb
      have e' : q + 1 = i + 1 := e
      have : q = i := by omega
      subst this
      have eq'' : edG n gap C ms (q + 1) = edG n gap C ms q + 0 := eq'
      omega
    · obtain ⟨d, hd, m, _, rfl⟩ := bnT_mem hb
      exact absurd e (hu d hd)
  · have := h.nn i
    have := h.nn (i + 1)
    omega
/-- The widths of all columns. -/
def wsG (n : Nat) (gap : Int) (C : List Cl) (ms : List Int) : List Int := rowN n (wiG n gap C ms)
theorem wsG_len (n : Nat) (gap : Int) (C : List Cl) (ms : List Int) : (wsG n gap C ms).length = n := rowN_len n _
theorem wsG_at {n : Nat} {gap : Int} {C : List Cl} {ms : List Int} {i : Nat} (h : i < (wsG n gap C ms).length) : (wsG n gap C ms)[i] = wiG n gap C ms i := by
  have h' : i < n := by rwa [wsG_len] at h
  have := rowN_at (wiG n gap C ms) h'
  unfold wsG
  rw [List.getElem?_eq_some_iff] at this
  obtain ⟨_, e⟩ := this
  exact e
/-- So many numbers together. -/
def smL : List Int → Int
  | [] => 0
  | x :: l => x + smL l
theorem smL_snoc : ∀ (l : List Int) (x : Int), smL (l ++ [x]) = smL l + x
  | [], x => by simp [smL]
  | y :: l, x => by rw [List.cons_append, smL, smL_snoc l x, smL]; omega
theorem smL_take {l : List Int} {i : Nat} (h : i < l.length) : smL (l.take (i + 1)) = smL (l.take i) + l[i] := by rw [List.take_succ_eq_append_getElem h, smL_snoc]
theorem smL_edges {n : Nat} {gap : Int} {C : List Cl} {ms : List Int} (h : Gri n gap C ms) : ∀ {i : Nat}, i ≤ n → smL ((wsG n gap C ms).take i) = edG n gap C ms i
  | 0, _ => by rw [h.zero]; rfl
  | i + 1, hi => by
    have hl : i < (wsG n gap C ms).length := by rw [wsG_len]; omega
    rw [smL_take hl, smL_edges h (by omega), wsG_at hl]
    unfold wiG
    omega
/-- Whatever widths: the sums of the first so many keep the bounds, if all find room. -/
theorem other_kps {n : Nat} {gap : Int} {C : List Cl} {ms : List Int} {o : List Int} (hl : o.length = n) (h0 : ∀ x ∈ o, 0 ≤ x) (hr : ∀ i (h1 : i < C.length) (h2 : i < ms.length), ms[i] ≤ smL (o.take (C[i].x + C[i].k)) - smL (o.take C[i].x) + ((C[i].k : Int) - 1) * gap) : Kps (bnG n gap C ms) fun v => smL (o.take v) := by
  intro b hb
  rcases List.mem_append.1 hb with hb | hb
  · obtain ⟨i, hi, rfl⟩ := bnE_mem.1 hb
    have h1 := smL_take (l := o) (i := i) (by omega)
    have h2 := h0 o[i] (List.getElem_mem _)
    show smL (o.take i) + 0 ≤ smL (o.take (i + 1))
    omega
  · unfold bnT at hb
    obtain ⟨i, hi, e⟩ := List.mem_iff_getElem.1 hb
    rw [List.getElem_zipWith] at e
    have hi' : i < C.length ∧ i < ms.length := by rw [List.length_zipWith] at hi; omega
    have := hr i hi'.1 hi'.2
    subst e
    show smL (o.take C[i].x) + (ms[i] - ((C[i].k : Int) - 1) * gap) ≤ smL (o.take (C[i].x + C[i].k))
    omega
theorem smL_nn : ∀ {l : List Int}, (∀ x ∈ l, 0 ≤ x) → 0 ≤ smL l
  | [], _ => Int.le_refl _
  | x :: l, h => by
    have := smL_nn (l := l) fun y hy => h y (by simp [hy])
    have := h x (by simp)
    rw [smL]; omega
/-- The stage's theorem in plain words. -/
theorem grid_least {n : Nat} {gap : Int} {C : List Cl} {ms : List Int} (h : Gri n gap C ms) {o : List Int} (hl : o.length = n) (h0 : ∀ x ∈ o, 0 ≤ x) (hr : ∀ i (h1 : i < C.length) (h2 : i < ms.length), ms[i] ≤ smL (o.take (C[i].x + C[i].k)) - smL (o.take C[i].x) + ((C[i].k : Int) - 1) * gap) {j : Nat} (hj : j ≤ n) : smL ((wsG n gap C ms).take j) ≤ smL (o.take j) := by
  rw [smL_edges h hj]
  exact h.least (other_kps hl h0 hr) (fun v => smL_nn fun x hx => h0 x (List.mem_of_mem_take hx)) j

end Go.Proofs.YthnhcphkpffkfaaGreat

namespace Go.Proofs.YthnhcphkpffkfaaGreat

theorem celF_take (n : Nat) : ∀ (l : List Int) (x y i : Nat), celF n x y (l.take i) = (celF n x y l).take i
  | [], _, _, i => by simp [celF]
  | s :: l, x, y, 0 => by simp [celF]
  | s :: l, x, y, i + 1 => by rw [List.take_succ_cons, celF, celF, List.take_succ_cons, celF_take n l]
theorem cel_takes (n : Nat) (l : List Int) (i : Nat) : cel n (l.take i) = (cel n l).take i := celF_take n l 0 0 i
/-- A row's height, with one thing more. -/
def hgO (out : List Int) (y : Nat) : List Int := if y = out.length then out ++ [0] else out
def hgS (out : List Int) (y : Nat) (m : Int) : List Int := (hgO out y).set y (max ((hgO out y).getD y 0) m)
def hgF : List Int → List Cl → List Int → List Int
  | out, c :: C, m :: ms => hgF (hgS out c.y m) C ms
  | out, _, _ => out
def hgt (C : List Cl) (ms : List Int) : List Int := hgF [] C ms
theorem hgF_snoc : ∀ (C : List Cl) (ms : List Int) (out : List Int) (c : Cl) (m : Int), C.length = ms.length → hgF out (C ++ [c]) (ms ++ [m]) = hgS (hgF out C ms) c.y m
  | [], [], _, _, _, _ => rfl
  | [], _ :: _, _, _, _, h => by simp at h
  | _ :: _, [], _, _, _, h => by simp at h
  | d :: C, x :: ms, out, c, m, h => by
    rw [List.cons_append, List.cons_append, hgF, hgF_snoc C ms _ c m (by simpa using h), hgF]
theorem hgO_len {out : List Int} {y : Nat} (h : y ≤ out.length) : (hgO out y).length = max out.length (y + 1) := by
  unfold hgO
  split
  · rw [List.length_append, List.length_singleton]; omega
  · omega
theorem hgS_len {out : List Int} {y : Nat} (h : y ≤ out.length) (m : Int) : (hgS out y m).length = max out.length (y + 1) := by unfold hgS; rw [List.length_set, hgO_len h]
theorem hgO_at (out : List Int) (y z : Nat) : (hgO out y).getD z 0 = out.getD z 0 := by
  unfold hgO
  split
  · rw [List.getD_eq_getElem?_getD, List.getD_eq_getElem?_getD, List.getElem?_append]
    split
    · rfl
    · next h =>
      rw [List.getElem?_eq_none (l := out) (by omega)]
      by_cases e : z - out.length = 0
      · rw [e]; rfl
      · rw [List.getElem?_eq_none (by simp; omega)]
  · rfl
theorem hgS_at {out : List Int} {y : Nat} (h : y ≤ out.length) (m : Int) (z : Nat) : (hgS out y m).getD z 0 = if z = y then max (out.getD y 0) m else out.getD z 0 := by
  unfold hgS
  rw [List.getD_eq_getElem?_getD, List.getElem?_set]
  have hl := hgO_len h
  by_cases c : y = z
  · subst c
    rw [if_pos rfl, if_pos (by omega), if_pos rfl, hgO_at]
    rfl
  · rw [if_neg c, if_neg (fun e => c e.symm), ← List.getD_eq_getElem?_getD, hgO_at]
theorem hgS_mem {out : List Int} {y : Nat} {m : Int} (h : ∀ x ∈ out, 0 ≤ x ∧ x ≤ 16384) (hm : 0 ≤ m ∧ m ≤ 16384) : ∀ x ∈ hgS out y m, 0 ≤ x ∧ x ≤ 16384 := by
  have ho : ∀ x ∈ hgO out y, 0 ≤ x ∧ x ≤ 16384 := by
    intro x hx
    unfold hgO at hx
    split at hx
    · rcases List.mem_append.1 hx with hx | hx
      · exact h x hx
      · simp at hx; omega
    · exact h x hx
  intro x hx
  unfold hgS at hx
  rcases List.mem_or_eq_of_mem_set hx with hx | rfl
  · exact ho x hx
  · have : 0 ≤ (hgO out y).getD y 0 ∧ (hgO out y).getD y 0 ≤ 16384 := by
      rw [List.getD_eq_getElem?_getD]
      cases e : (hgO out y)[y]? with
      | none => simp
      | some v => exact ho v (List.mem_of_getElem? e)
    omega
theorem hgt_take {n : Nat} {l ms : List Int} (hl : l.length = ms.length) {i : Nat} (h : i < l.length) : hgt (cel n (l.take (i + 1))) (ms.take (i + 1)) = hgS (hgt (cel n (l.take i)) (ms.take i)) (nxC n (celX n 0 0 (l.take i)) (celY n 0 0 (l.take i)) l[i]).y (ms[i]'(by omega)) := by
  rw [cel_take l h, List.take_succ_eq_append_getElem (l := ms) (by omega)]
  unfold hgt
  rw [hgF_snoc]
  rw [cel_len, List.length_take, List.length_take]
  omega
theorem nxC_y {n x y : Nat} (s : Int) : (nxC n x y s).y = y ∨ (nxC n x y s).y = y + 1 := by unfold nxC; split <;> simp
theorem cel_at_take {n : Nat} {l : List Int} {i : Nat} (h : i < l.length) : (cel n l)[i]'(by rw [cel_len]; exact h) = nxC n (celX n 0 0 (l.take i)) (celY n 0 0 (l.take i)) l[i] := by
  have h1 : (cel n (l.take (i + 1)))[i]? = (cel n l)[i]? := by rw [cel_takes, List.getElem?_take, if_pos (by omega)]
  rw [cel_take l h, List.getElem?_append_right (by rw [cel_len, List.length_take]; omega), cel_len, List.length_take] at h1
  have e : i - min i l.length = 0 := by omega
  rw [e] at h1
  simp only [List.getElem?_cons_zero] at h1
  have h2 : (cel n l)[i]? = some ((cel n l)[i]'(by rw [cel_len]; exact h)) := List.getElem?_eq_getElem _
  rw [h2] at h1
  injection h1 with h1
  exact h1.symm
/-- Of the heights: as many as there are rows, each as great as its things. -/
theorem hgt_facts {n : Nat} (h0 : 0 < n) {l ms : List Int} (hl : l.length = ms.length) (hm : ∀ m ∈ ms, 0 ≤ m ∧ m ≤ 16384) : ∀ (i : Nat), i ≤ l.length →
    (hgt (cel n (l.take i)) (ms.take i)).length = (if i = 0 then 0 else celY n 0 0 (l.take i) + 1) ∧ (∀ x ∈ hgt (cel n (l.take i)) (ms.take i), 0 ≤ x ∧ x ≤ 16384) ∧ (∀ j (hj : j < l.length), j < i → ms[j]'(by omega) ≤ (hgt (cel n (l.take i)) (ms.take i)).getD ((cel n l)[j]'(by rw [cel_len]; exact hj)).y 0 ∧ ((cel n l)[j]'(by rw [cel_len]; exact hj)).y < (hgt (cel n (l.take i)) (ms.take i)).length)
  | 0, _ => ⟨by simp [hgt, hgF, cel, celF], by simp [hgt, hgF, cel, celF], fun j _ h => absurd h (Nat.not_lt_zero j)⟩
  | i + 1, hi => by
    obtain ⟨h1, h2, h3⟩ := hgt_facts h0 hl hm i (by omega)
    have hy : (nxC n (celX n 0 0 (l.take i)) (celY n 0 0 (l.take i)) l[i]).y ≤ (hgt (cel n (l.take i)) (ms.take i)).length ∧ (hgt (cel n (l.take i)) (ms.take i)).length ≤ (nxC n (celX n 0 0 (l.take i)) (celY n 0 0 (l.take i)) l[i]).y + 1 := by
      rw [h1]
      by_cases c : i = 0
      · subst c
        have := wdN_bd h0 l[0]
        have e : nxC n (celX n 0 0 (l.take 0)) (celY n 0 0 (l.take 0)) l[0] = ⟨0, 0, wdN n l[0]⟩ := by
          rw [List.take_zero, celX, celY]
          unfold nxC
          rw [if_neg (by omega)]
        rw [e]
        simp
      · rw [if_neg c]
        have := nxC_y (n := n) (x := celX n 0 0 (l.take i)) (y := celY n 0 0 (l.take i)) l[i]
        omega
    have hyc := cel_at_take (n := n) (l := l) (i := i) (by omega)
    have hY : celY n 0 0 (l.take (i + 1)) = (nxC n (celX n 0 0 (l.take i)) (celY n 0 0 (l.take i)) l[i]).y := by rw [List.take_succ_eq_append_getElem (l := l) (by omega), celY_snoc]
    rw [hgt_take hl (by omega)]
    rw [if_neg (Nat.succ_ne_zero i), hY, hgS_len hy.1]
    refine ⟨by omega, hgS_mem h2 (hm _ (List.getElem_mem _)), fun j hj hji => ?_⟩
    rw [hgS_at hy.1]
    by_cases c : j = i
    · subst c
      rw [hyc, if_pos rfl]
      exact ⟨by omega, by omega⟩
    · obtain ⟨g1, g2⟩ := h3 j hj (by omega)
      refine ⟨?_, by omega⟩
      split
      · next e => rw [← e]; omega
      · exact g1
theorem hgt_all {n : Nat} (h0 : 0 < n) {l ms : List Int} (hl : l.length = ms.length) (hm : ∀ m ∈ ms, 0 ≤ m ∧ m ≤ 16384) : (hgt (cel n l) ms).length ≤ l.length ∧ (∀ x ∈ hgt (cel n l) ms, 0 ≤ x ∧ x ≤ 16384) ∧ (∀ j (hj : j < l.length), ms[j]'(by omega) ≤ (hgt (cel n l) ms).getD ((cel n l)[j]'(by rw [cel_len]; exact hj)).y 0 ∧ ((cel n l)[j]'(by rw [cel_len]; exact hj)).y < (hgt (cel n l) ms).length) := by
  have h := hgt_facts h0 hl hm l.length (Nat.le_refl _)
  rw [List.take_length, List.take_of_length_le (l := ms) (by omega)] at h
  obtain ⟨h1, h2, h3⟩ := h
  refine ⟨?_, h2, fun j hj => h3 j hj (by omega)⟩
  rw [h1]
  split
  · omega
  · next c =>
    have hp : l.length - 1 < l.length := by omega
    have hc := cel_in h0 (l := l) (List.getElem_mem (l := cel n l) (n := l.length - 1) (by rw [cel_len]; exact hp))
    rw [cel_at_take hp] at hc
    have hY : celY n 0 0 l = (nxC n (celX n 0 0 (l.take (l.length - 1))) (celY n 0 0 (l.take (l.length - 1))) l[l.length - 1]).y := by
      have := celY_snoc n (l.take (l.length - 1)) l[l.length - 1] 0 0
      rw [← List.take_succ_eq_append_getElem (l := l) hp] at this
      rw [show l.length - 1 + 1 = l.length by omega, List.take_length] at this
      exact this
    omega

/-- The used columns. -/
def usd : List Cl → Nat
  | [] => 0
  | c :: C => max (c.x + c.k) (usd C)
theorem usd_snoc : ∀ (C : List Cl) (c : Cl), usd (C ++ [c]) = max (usd C) (c.x + c.k)
  | [], c => by simp [usd]
  | d :: C, c => by rw [List.cons_append, usd, usd_snoc C c, usd]; omega
theorem usd_ge : ∀ {C : List Cl} {c : Cl}, c ∈ C → c.x + c.k ≤ usd C
  | [], c, h => by simp at h
  | d :: C, c, h => by
    rw [usd]
    rcases List.mem_cons.1 h with rfl | h
    · omega
    · have := usd_ge h; omega
theorem usd_le {n : Nat} : ∀ {C : List Cl}, (∀ c ∈ C, c.x + c.k ≤ n) → usd C ≤ n
  | [], _ => Nat.zero_le n
  | d :: C, h => by
    rw [usd]
    have := h d (by simp)
    have := usd_le (C := C) fun c hc => h c (by simp [hc])
    omega
/-- Columns that are not used are not wide: all widths together are those of the used ones. -/
theorem used_all {n : Nat} {gap : Int} {C : List Cl} {ms : List Int} (h : Gri n gap C ms) : ∀ {j : Nat}, usd C ≤ j → j ≤ n → edG n gap C ms j = edG n gap C ms (usd C)
  | 0, h1, _ => by rw [show usd C = 0 by omega]
  | j + 1, h1, h2 => by
    by_cases e : usd C = j + 1
    · rw [e]
    · rw [← used_all h (j := j) (by omega) (by omega)]
      have := h.none (i := j) (by omega) fun c hc => by have := usd_ge hc; omega
      unfold wiG at this
      omega
/-- The sum of numbers, with a gap between each two of so many. -/
def sumG (l : List Int) (k : Nat) (gap : Int) : Int := smL l + ((k : Int) - 1) * gap
def neS (l : List Int) (k : Nat) (gap : Int) : Int := max ((k : Int) - 1) 0 * gap + smL l

/-- A track that grows. -/
def trk (m : Int) : Tk := ⟨m, 0, 1⟩
theorem trk_ok {l : List Int} (h : ∀ x ∈ l, 0 ≤ x ∧ x ≤ 16384) : ∀ t ∈ l.map trk, okT t := by
  intro t ht
  obtain ⟨m, hm, rfl⟩ := List.mem_map.1 ht
  have := h m hm
  exact ⟨this.1, this.2, .inl rfl, by show (0 : Int) ≤ 1; omega, by show (1 : Int) ≤ 16384; omega⟩
theorem trk_mn : ∀ l : List Int, mnS (l.map trk) = smL l
  | [] => rfl
  | x :: l => by rw [List.map_cons, mnS, trk_mn l, smL]; rfl
theorem sumO_sm : ∀ R : List Ce, sumO R = smL (R.map (·.o))
  | [] => rfl
  | c :: R => by rw [sumO, sumO_sm R, List.map_cons, smL]
theorem trk_ch {l : List Int} (h : ∀ x ∈ l, 0 ≤ x ∧ x ≤ 16384) (hn : l.length ≤ 1024) : chT (l.map trk) = 0 := by
  unfold chT
  rw [List.length_map, if_neg (by omega), if_pos]
  exact List.all_eq_true.2 fun t ht => (okB_iff t).2 (trk_ok h t ht)
/-- What each in a row has. -/
def roL (l : List Int) (gap room : Int) : List Int := shaR (l.map trk) (rwM (l.map trk) gap room)
theorem rwL_trk {l : List Int} (h : ∀ x ∈ l, 0 ≤ x ∧ x ≤ 16384) (hn : l.length ≤ 1024) {gap room : Int} (hg : 0 ≤ gap ∧ gap ≤ 16384) (hr : 0 ≤ room ∧ room ≤ 32768) : rwL (l.map trk) gap room = roL l gap room ∧ rwE (l.map trk) gap room = 0 := by
  have hb : rwB gap room = true := by unfold rwB sdB rmB; simp; omega
  unfold rwL rwE
  rw [if_pos (trk_ch h hn), if_pos hb, if_pos (trk_ch h hn), if_pos hb]
  exact ⟨rfl, rfl⟩
theorem roL_len {l : List Int} (h : ∀ x ∈ l, 0 ≤ x ∧ x ≤ 16384) (gap room : Int) : (roL l gap room).length = l.length := by
  unfold roL
  rw [shaR_len (trk_ok h), List.length_map]
theorem roL_ge {l : List Int} (h : ∀ x ∈ l, 0 ≤ x ∧ x ≤ 16384) (gap room : Int) {i : Nat} (h1 : i < l.length) (h2 : i < (roL l gap room).length) : l[i] ≤ (roL l gap room)[i] := by
  have ht := sha_tk (trk_ok h) (rwM (l.map trk) gap room)
  unfold roL shaR at h2 ⊢
  rw [List.length_map] at h2
  have hc := (sha_lo (trk_ok h) (rwM (l.map trk) gap room) _ (List.getElem_mem h2)).1
  have e : ((shaC (l.map trk) (rwM (l.map trk) gap room))[i]).t = trk l[i] := by
    have h3 : ((shaC (l.map trk) (rwM (l.map trk) gap room)).map (·.t))[i]? = (l.map trk)[i]? := by rw [ht]
    rw [List.getElem?_map, List.getElem?_map, List.getElem?_eq_getElem h2, List.getElem?_eq_getElem h1] at h3
    simpa using h3
  rw [e] at hc
  rw [List.getElem_map]
  exact hc
theorem roL_sum {l : List Int} (h : ∀ x ∈ l, 0 ≤ x ∧ x ≤ 16384) {gap room : Int} (hp : 0 < l.length) (hs : neS l l.length gap ≤ room) : smL (roL l gap room) = room - ((l.length : Int) - 1) * gap := by
  have h1 := sha_sum (trk_ok h) (rwM (l.map trk) gap room)
  have ha : anyB (l.map trk) = true := by
    unfold anyB
    refine List.any_eq_true.2 ⟨trk l[0], List.mem_map.2 ⟨_, List.getElem_mem hp, rfl⟩, ?_⟩
    rfl
  have hm : mosI (l.map trk) = -1 := by unfold mosI; rw [if_pos ha]
  rw [hm, if_neg (by omega), sumO_sm, trk_mn] at h1
  show smL (roL l gap room) = _
  have e : smL (roL l gap room) = max (smL l) (rwM (l.map trk) gap room) := h1
  rw [e]
  unfold rwM
  unfold neS at hs
  rw [List.length_map]
  have h0 := smL_nn fun x hx => (h x hx).1
  have hx : max ((l.length : Int) - 1) 0 = (l.length : Int) - 1 := by omega
  rw [hx] at hs ⊢
  rw [Int.mul_comm gap]
  generalize ((l.length : Int) - 1) * gap = q at *
  omega
theorem roL_nn {l : List Int} (h : ∀ x ∈ l, 0 ≤ x ∧ x ≤ 16384) (gap room : Int) : ∀ x ∈ roL l gap room, 0 ≤ x := by
  intro x hx
  obtain ⟨i, hi, rfl⟩ := List.mem_iff_getElem.1 hx
  have h1 : i < l.length := by rw [roL_len h] at hi; exact hi
  have h2 := roL_ge h gap room h1 hi
  have h3 := h l[i] (List.getElem_mem h1)
  omega
theorem bgs_at (gap : Int) : ∀ (xs : List Int) (a : Int) (i : Nat), i < xs.length → (bgs gap a xs).getD i 0 = a + smL (xs.take i) + i * gap
  | [], _, _, h => by simp at h
  | x :: l, a, 0, _ => by simp [bgs, smL]
  | x :: l, a, i + 1, h => by
    rw [bgs, List.getD_cons_succ, bgs_at gap l _ i (by simpa using h), List.take_succ_cons, smL, Int.natCast_add, Int.add_mul]
    simp
    omega
theorem smL_mono {xs : List Int} (h : ∀ x ∈ xs, 0 ≤ x) {a : Nat} : ∀ {b : Nat}, a ≤ b → smL (xs.take a) ≤ smL (xs.take b)
  | 0, h1 => by rw [show a = 0 by omega]; exact Int.le_refl _
  | b + 1, h1 => by
    by_cases e : a = b + 1
    · rw [e]; exact Int.le_refl _
    · refine Int.le_trans (smL_mono h (b := b) (by omega)) ?_
      by_cases hb : b < xs.length
      · rw [smL_take hb]
        have := h xs[b] (List.getElem_mem hb)
        omega
      · rw [List.take_of_length_le (by omega), List.take_of_length_le (by omega)]; exact Int.le_refl _
/-- What is wider one by one is wider from here to there. -/
theorem smL_dif {l xs : List Int} (hl : l.length = xs.length) (h : ∀ i (h1 : i < l.length) (h2 : i < xs.length), l[i] ≤ xs[i]) {a : Nat} : ∀ {b : Nat}, a ≤ b → b ≤ l.length → smL (l.take b) - smL (l.take a) ≤ smL (xs.take b) - smL (xs.take a)
  | 0, h1, _ => by rw [show a = 0 by omega]; simp
  | b + 1, h1, h2 => by
    by_cases e : a = b + 1
    · rw [e]; omega
    · have h3 := smL_dif hl h (a := a) (b := b) (by omega) (by omega)
      have h4 := h b (by omega) (by omega)
      rw [smL_take (l := l) (i := b) (by omega), smL_take (l := xs) (i := b) (by omega)]
      omega
/-- Where a stretch of a row begins, and how far it goes. -/
def beg (gap : Int) (xs : List Int) (x : Nat) : Int := (bgs gap 0 xs).getD x 0
def ext (gap : Int) (xs : List Int) (x k : Nat) : Int := (bgs gap 0 xs).getD (x + k - 1) 0 + xs.getD (x + k - 1) 0 - (bgs gap 0 xs).getD x 0
theorem beg_eq {gap : Int} {xs : List Int} {x : Nat} (h : x < xs.length) : beg gap xs x = smL (xs.take x) + x * gap := by
  unfold beg
  rw [bgs_at gap xs 0 x h]
  omega
theorem ext_eq {gap : Int} {xs : List Int} {x k : Nat} (hk : 1 ≤ k) (h : x + k ≤ xs.length) : ext gap xs x k = smL (xs.take (x + k)) - smL (xs.take x) + ((k : Int) - 1) * gap := by
  unfold ext
  have h1 : x + k - 1 < xs.length := by omega
  rw [bgs_at gap xs 0 _ h1, bgs_at gap xs 0 x (by omega)]
  have h2 := smL_take h1
  rw [show x + k - 1 + 1 = x + k by omega] at h2
  have h3 : xs.getD (x + k - 1) 0 = xs[x + k - 1] := by rw [List.getD_eq_getElem?_getD, List.getElem?_eq_getElem h1]; rfl
  rw [h3, h2]
  have e : ((x + k - 1 : Nat) : Int) * gap = (x : Int) * gap + ((k : Int) - 1) * gap := by
    rw [← Int.add_mul]
    congr 1
    omega
  rw [e]
  omega
/-- All lie within. -/
theorem ext_in {gap : Int} (hg : 0 ≤ gap) {xs : List Int} (h0 : ∀ v ∈ xs, 0 ≤ v) {x k : Nat} (hk : 1 ≤ k) (h : x + k ≤ xs.length) : 0 ≤ beg gap xs x ∧ 0 ≤ ext gap xs x k ∧ beg gap xs x + ext gap xs x k ≤ smL xs + ((xs.length : Int) - 1) * gap := by
  rw [beg_eq (by omega), ext_eq hk h]
  have h1 := smL_nn (l := xs.take x) fun v hv => h0 v (List.mem_of_mem_take hv)
  have h2 := smL_mono h0 (a := x) (b := x + k) (by omega)
  have h3 := smL_mono h0 (a := x + k) (b := xs.length) h
  rw [List.take_length] at h3
  have h4 : 0 ≤ (x : Int) * gap := Int.mul_nonneg (by omega) hg
  have h5 : 0 ≤ ((k : Int) - 1) * gap := Int.mul_nonneg (by omega) hg
  have h6 : ((xs.length : Int) - 1) * gap = (x : Int) * gap + ((k : Int) - 1) * gap + (((xs.length : Int) - (x + k)) * gap) := by
    rw [← Int.add_mul, ← Int.add_mul]
    congr 1
    omega
  have h7 : 0 ≤ ((xs.length : Int) - (x + k)) * gap := Int.mul_nonneg (by omega) hg
  omega
/-- One behind the other. -/
theorem ext_aft {gap : Int} (hg : 0 ≤ gap) {xs : List Int} (h0 : ∀ v ∈ xs, 0 ≤ v) {x k z : Nat} (hk : 1 ≤ k) (h : x + k ≤ z) (hz : z < xs.length) : beg gap xs x + ext gap xs x k ≤ beg gap xs z := by
  rw [beg_eq (by omega), ext_eq hk (by omega), beg_eq hz]
  have h2 := smL_mono h0 (a := x + k) (b := z) h
  have h6 : (z : Int) * gap = (x : Int) * gap + ((k : Int) - 1) * gap + (((z : Int) - (x + k) + 1) * gap) := by
    rw [← Int.add_mul, ← Int.add_mul]
    congr 1
    omega
  have h7 : 0 ≤ ((z : Int) - (x + k) + 1) * gap := Int.mul_nonneg (by omega) hg
  omega

end Go.Proofs.YthnhcphkpffkfaaGreat
