/-
  Texts of this claim, one behind the other: what each is about stands ahead of it.
-/
import Derived.Test.YtapachlhdgehjaaGreatDoorK1
import Derived.Test.YtapachlhdgehjaaGreatDoorK5
import Derived.Test.YtapachlhdgehjaaGreatDoorK7
/-
  The same law, for regions with long chains: an allocation may look at what the walk has reckoned (a slice that is built), and answers a value of its own; what comes late may hang on the early ones over any number of steps.
-/
namespace Go.Proofs.YtapachlhdgehjaaGreatDoor
open Go.RowKit
namespace R4

def clo (ops : Array Oper) (n : Nat) : Nat → List Nat → List Nat
  | 0, s => s
  | f + 1, s => clo ops n f (s ++ (List.range n).filter fun i => !s.contains i && s.any fun j => (preds ops j).contains i)
def phaseB (ops : Array Oper) (nq na : Nat) : Bool :=
  ((List.range (nq + na)).all fun i => (dsl ops i).isSome && ((List.range i).all fun j => dsl ops j != dsl ops i) && (preds ops i).all fun p => decide (p < i)) &&
  ((List.range (nq + na)).all fun i => match ops[i]? with
    | none => false
    | some o => (o.looksAt ops).all fun t => (List.range (nq + na)).all fun j => dsl ops j != some t || (decide (j < i) && (decide (j < nq) && (preds ops i).contains j))) &&
  (((List.range ops.size).drop (nq + na)).all fun k => (List.range (nq + na)).all fun i => (clo ops (nq + na) 30 (preds ops k)).contains i) &&
  decide (nq + na ≤ ops.size) && Region.noSelect ops
def layL (mkv : Nat → Nat → Value) (bl : Nat → Nat) : Nat → List Tmp → Act → Act
  | _, [], a => a
  | k, d :: r, a => layL mkv bl (k + 1) r (a.put (some d) (mkv k (bl k)))

section
variable {P : Program} {ops : Array Oper} {Q : Exit → Act → World → Prop}

theorem layL_size (mkv : Nat → Nat → Value) (bl : Nat → Nat) : ∀ (l : List Tmp) (k : Nat) (a : Act), (layL mkv bl k l a).tmps.size = a.tmps.size
  | [], _, _ => rfl
  | d :: l, k, a => by show (layL mkv bl (k + 1) l (a.put (some d) (mkv k (bl k)))).tmps.size = _; rw [layL_size mkv bl l, put_size]
theorem layL_defers (mkv : Nat → Nat → Value) (bl : Nat → Nat) : ∀ (l : List Tmp) (k : Nat) (a : Act), (layL mkv bl k l a).defers = a.defers
  | [], _, _ => rfl
  | d :: l, k, a => by show (layL mkv bl (k + 1) l (a.put (some d) (mkv k (bl k)))).defers = _; rw [layL_defers mkv bl l, put_defers]
theorem layL_ne (mkv : Nat → Nat → Value) (bl : Nat → Nat) : ∀ (l : List Tmp) (k : Nat) (a : Act) (t : Tmp), (∀ j : Nat, l[j]? ≠ some t) → (layL mkv bl k l a).tmps[t]? = a.tmps[t]?
  | [], _, _, _, _ => rfl
  | d :: l, k, a, t, h => by
    show (layL mkv bl (k + 1) l (a.put (some d) (mkv k (bl k)))).tmps[t]? = _
    rw [layL_ne mkv bl l (k + 1) _ t (fun j => by simpa using h (j + 1)), put_ne a _ (fun e => h 0 (by simp [e]))]
theorem layL_at (mkv : Nat → Nat → Value) (bl : Nat → Nat) : ∀ (l : List Tmp) (k : Nat) (a : Act) (t : Tmp) (j : Nat), l[j]? = some t → (∀ i : Nat, i ≠ j → l[i]? ≠ some t) → (layL mkv bl k l a).tmps[t]? = if t < a.tmps.size then some (mkv (k + j) (bl (k + j))) else none
  | [], _, _, _, _, h, _ => by simp at h
  | d :: l, k, a, t, 0, h, hu => by
    show (layL mkv bl (k + 1) l (a.put (some d) (mkv k (bl k)))).tmps[t]? = _
    have e : d = t := by simpa using h
    subst e
    rw [layL_ne mkv bl l (k + 1) _ d (fun i => by simpa using hu (i + 1) (by omega)), put_at]; rfl
  | d :: l, k, a, t, j + 1, h, hu => by
    show (layL mkv bl (k + 1) l (a.put (some d) (mkv k (bl k)))).tmps[t]? = _
    rw [layL_at mkv bl l (k + 1) _ t j (by simpa using h) (fun i hi => by simpa using hu (i + 1) (by omega)), put_size, show k + 1 + j = k + (j + 1) by omega]

structure PInv (ops : Array Oper) (W : World) (a0 a1 : Act) (mkv : Nat → Nat → Value) (als : Nat → Obj) (nq na : Nat) (bl : Nat → Nat) (l : Array Bool) (a : Act) (w : World) : Prop where
  size : l.size = ops.size
  late : ∀ k, nq + na ≤ k → l.getD k false = false
  down : ∀ i, l.getD i false = true → ∀ p ∈ preds ops i, l.getD p false = true
  tsize : a.tmps.size = a0.tmps.size
  defers : a.defers = a0.defers
  free : ∀ t, (∀ i, i < nq + na → l.getD i false = true → dsl ops i ≠ some t) → a.tmps[t]? = a0.tmps[t]?
  quiet : ∀ i d, i < nq → l.getD i false = true → dsl ops i = some d → a.tmps[d]? = a1.tmps[d]?
  below : Below W.heap.size W w
  lo : ∀ i, nq ≤ i → i < nq + na → l.getD i false = true → W.heap.size ≤ bl i ∧ w.heap[bl i]? = some (als i)
  slot : ∀ i d, nq ≤ i → i < nq + na → l.getD i false = true → dsl ops i = some d → a.tmps[d]? = if d < a0.tmps.size then some (mkv i (bl i)) else none
  inj : ∀ i j, nq ≤ i → i < nq + na → nq ≤ j → j < nq + na → l.getD i false = true → l.getD j false = true → i ≠ j → bl i ≠ bl j

theorem phase_spec {nq na : Nat} (h : phaseB ops nq na = true) :
    (∀ i, i < nq + na → (∃ d, dsl ops i = some d) ∧ (∀ j, j < i → dsl ops j ≠ dsl ops i) ∧ ∀ p ∈ preds ops i, p < i) ∧
    (∀ i, i < nq + na → ∃ o, ops[i]? = some o ∧ ∀ t ∈ o.looksAt ops, ∀ j, j < nq + na → dsl ops j = some t → j < i ∧ j < nq ∧ j ∈ preds ops i) ∧
    (∀ k, nq + na ≤ k → k < ops.size → ∀ i, i < nq + na → i ∈ clo ops (nq + na) 30 (preds ops k)) ∧
    nq + na ≤ ops.size ∧ Region.noSelect ops = true := by
  unfold phaseB at h
  simp only [Bool.and_eq_true, List.all_eq_true, List.mem_range, decide_eq_true_eq] at h
  obtain ⟨⟨⟨⟨h1, h2⟩, h3⟩, h4⟩, h5⟩ := h
  refine ⟨fun i hi => ?_, fun i hi => ?_, fun k hk1 hk2 i hi => ?_, h4, h5⟩
  · obtain ⟨⟨e1, e2⟩, e3⟩ := h1 i hi
    exact ⟨Option.isSome_iff_exists.1 e1, fun j hj => by simpa using e2 j hj, e3⟩
  · have := h2 i hi
    cases ho : ops[i]? with
    | none => rw [ho] at this; simp at this
    | some o =>
      rw [ho] at this
      simp only [List.all_eq_true, List.mem_range] at this
      refine ⟨o, rfl, fun t ht j hj e => ?_⟩
      have := this t ht j hj
      simp [e] at this
      exact ⟨this.1, this.2.1, this.2.2⟩
  · have hm : k ∈ (List.range ops.size).drop (nq + na) := by
      rw [List.mem_drop_iff_getElem]
      refine ⟨k - (nq + na), by simp; omega, by simp; omega⟩
    have := h3 k hm i hi
    simpa using this

theorem getD_set (l : Array Bool) (i j : Nat) (hi : i < l.size) : (l.setIfInBounds i true).getD j false = if i = j then true else l.getD j false := by
  by_cases e : i = j
  · subst e
    simp [Array.getD_eq_getD_getElem?, hi]
  · simp [e, Array.getD_eq_getD_getElem?, Array.getElem?_setIfInBounds_ne e]

def bsOf (als : Nat → Obj) (nq na : Nat) (bl : Nat → Nat) (l : Array Bool) : List (Nat × Obj) :=
  ((List.range (nq + na)).filter fun i => decide (nq ≤ i) && l.getD i false).map fun i => (bl i, als i)
theorem mem_bsOf {als : Nat → Obj} {nq na : Nat} {bl : Nat → Nat} {l : Array Bool} {p : Nat × Obj} : p ∈ bsOf als nq na bl l ↔ ∃ i, nq ≤ i ∧ i < nq + na ∧ l.getD i false = true ∧ p = (bl i, als i) := by
  unfold bsOf
  simp only [List.mem_map, List.mem_filter, List.mem_range, Bool.and_eq_true, decide_eq_true_eq]
  constructor
  · rintro ⟨i, ⟨h1, h2, h3⟩, rfl⟩
    exact ⟨i, h2, h1, h3, rfl⟩
  · rintro ⟨i, h1, h2, h3, rfl⟩
    exact ⟨i, ⟨h2, h1, h3⟩, rfl⟩

section steps
variable {W : World} {a0 a1 : Act} {mkv : Nat → Nat → Value} {als : Nat → Obj} {nq na : Nat} {bl : Nat → Nat} {l : Array Bool} {a : Act} {w : World}

theorem PInv.stepQuiet (hB : phaseB ops nq na = true) (I : PInv ops W a0 a1 mkv als nq na bl l a w) {i : Nat} (hi : i < nq) (hr : i ∈ Region.ready .any ops l)
    (out : ∀ t, (∀ j, j < nq → dsl ops j ≠ some t) → a1.tmps[t]? = a0.tmps[t]?) (hz : a1.tmps.size = a0.tmps.size)
    (hF : ∀ bs, Nonempty (Gb W bs) → ∀ o d, ops[i]? = some o → dsl ops i = some d → Fix P ops (fun w' => ∃ t : Gb W bs, w' = t.wd) a1 o d) :
    wpOp P ops Q i (fun a' w' => PInv ops W a0 a1 mkv als nq na bl (l.setIfInBounds i true) a' w') a w := by
  obtain ⟨s1, s2, s3, s4, s5⟩ := phase_spec hB
  obtain ⟨o, ho, hlk⟩ := s2 i (by omega)
  obtain ⟨⟨d, hd⟩, hdist, _⟩ := s1 i (by omega)
  obtain ⟨hnl, o', ho', hpre⟩ := mem_ready.1 hr
  rw [ho] at ho'
  cases ho'
  have hod : o.dst = some d := by simpa [dsl, ho] using hd
  have hpr : ∀ p ∈ preds ops i, l.getD p false = true := by
    intro p hp
    unfold preds at hp
    rw [ho] at hp
    simp only [List.mem_map, List.mem_filter] at hp
    obtain ⟨e, ⟨he, hb⟩, rfl⟩ := hp
    exact hpre e (by simpa using he) hb
  have hil : i < l.size := by rw [I.size]; omega
  have hsel := Region.noSelect_spec s5
  have hag : ∀ t ∈ o.looksAt ops, a1.tmps[t]? = a.tmps[t]? := by
    intro t ht
    by_cases hx : ∃ j, j < nq + na ∧ dsl ops j = some t
    · obtain ⟨j, hj, hjt⟩ := hx
      obtain ⟨_, h2, h3⟩ := hlk t ht j hj hjt
      exact (I.quiet j t h2 (hpr j h3) hjt).symm
    · rw [I.free t (fun j hj _ e => hx ⟨j, hj, e⟩), out t (fun j hj e => hx ⟨j, by omega, e⟩)]
  have next : ∀ v w', (∃ t : Gb W (bsOf als nq na bl l), w' = t.wd) → (a1.tmps[d]? = if d < a1.tmps.size then some v else none) → PInv ops W a0 a1 mkv als nq na bl (l.setIfInBounds i true) (a.put o.dst v) w' := by
    rintro v w' ⟨t, rfl⟩ hv
    have hput : ∀ t, t ≠ d → (a.put o.dst v).tmps[t]? = a.tmps[t]? := fun t ht => by rw [hod]; exact put_ne a v (Ne.symm ht)
    refine ⟨by simp [I.size], fun k hk => ?_, fun j hj p hp => ?_, by rw [put_size]; exact I.tsize, by rw [put_defers]; exact I.defers, fun t ht => ?_, fun j t hj hl ht => ?_, t.below, fun j h1 h2 hl => ?_, fun j t h1 h2 hl ht => ?_, fun j k h1 h2 h3 h4 hl hk hne => ?_⟩
    · rw [getD_set l i k hil, if_neg (by omega)]; exact I.late k hk
    · rw [getD_set l i p hil]
      rw [getD_set l i j hil] at hj
      by_cases e : i = j
      · subst e
        rw [hpr p hp]; simp
      · rw [if_neg e] at hj
        rw [I.down j hj p hp]; simp
    · have hne : t ≠ d := fun e => ht i (by omega) (by rw [getD_set l i i hil, if_pos rfl]) (by rw [hd, e])
      rw [hput t hne]
      exact I.free t fun j hj hl => ht j hj (by rw [getD_set l i j hil, hl]; simp)
    · rw [getD_set l i j hil] at hl
      by_cases e : i = j
      · subst e
        rw [hd] at ht
        cases ht
        rw [hod, put_at, hv, I.tsize, hz]
      · rw [if_neg e] at hl
        have hne : t ≠ d := fun e' => by
          subst e'
          rcases Nat.lt_or_gt_of_ne e with h | h
          · exact (s1 j (by omega)).2.1 i h (by rw [hd, ht])
          · exact hdist j h (by rw [hd, ht])
        rw [hput t hne]
        exact I.quiet j t hj hl ht
    · rw [getD_set l i j hil, if_neg (by omega)] at hl
      exact ⟨(I.lo j h1 h2 hl).1, t.held _ (mem_bsOf.2 ⟨j, h1, h2, hl, rfl⟩)⟩
    · rw [getD_set l i j hil, if_neg (by omega)] at hl
      have hne : t ≠ d := fun e' => by
        subst e'
        exact (s1 j (by omega)).2.1 i (by omega) (by rw [hd, ht])
      rw [hput t hne]
      exact I.slot j t h1 h2 hl ht
    · rw [getD_set l i j hil, if_neg (by omega)] at hl
      rw [getD_set l i k hil, if_neg (by omega)] at hk
      exact I.inj j k h1 h2 h3 h4 hl hk hne
  have hCw : ∃ t : Gb W (bsOf als nq na bl l), w = t.wd := ⟨⟨w, I.below, fun p hp => by
    obtain ⟨j, h1, h2, hl, rfl⟩ := mem_bsOf.1 hp
    exact (I.lo j h1 h2 hl).2⟩, rfl⟩
  have hFx := hF (bsOf als nq na bl l) (by obtain ⟨t, _⟩ := hCw; exact ⟨t⟩) o d ho hd
  unfold wpOp
  rw [ho]
  show if Region.wanted o (yielded ops a.tmps) = true then _ else _
  rw [← want_agree hag]
  rcases hFx with ⟨hw, v, hv, hd1⟩ | ⟨hw, hd1⟩
  · rw [if_pos hw]
    refine .inl (Oper.wp_of_quiet (C := fun w' => ∃ t : Gb W (bsOf als nq na bl l), w' = t.wd) (K := fun a' => a' = a.put o.dst v) hCw (fun a' w' hw' e => ?_) ⟨v, fun w' hw' => quietAt_agree (hsel i o · · ho) hag (hv w' hw'), rfl⟩)
    subst e
    exact next v w' hw' hd1
  · rw [if_neg (by rw [hw]; simp)]
    exact next undef w hCw hd1

theorem PInv.stepAlloc (hB : phaseB ops nq na = true) (I : PInv ops W a0 a1 mkv als nq na bl l a w) {i : Nat} (hi : nq ≤ i) (hi' : i < nq + na) (hr : i ∈ Region.ready .any ops l)
    (out : ∀ t, (∀ j, j < nq → dsl ops j ≠ some t) → a1.tmps[t]? = a0.tmps[t]?)
    {o : Oper} (ho : ops[i]? = some o) (hg : o.guard = none) (hrun0 : (execOp a1.eval o).run P w = .ok (.value (mkv i w.heap.size)) (w.alloc (als i))) :
    wpOp P ops Q i (fun a' w' => ∃ bl, PInv ops W a0 a1 mkv als nq na bl (l.setIfInBounds i true) a' w') a w := by
  obtain ⟨s1, s2, s3, s4, s5⟩ := phase_spec hB
  obtain ⟨⟨d, hd⟩, hdist, _⟩ := s1 i (by omega)
  obtain ⟨o2, ho2, hlk⟩ := s2 i (by omega)
  rw [ho] at ho2
  cases ho2
  obtain ⟨hnl, o', ho', hpre⟩ := mem_ready.1 hr
  rw [ho] at ho'
  cases ho'
  have hod : o.dst = some d := by simpa [dsl, ho] using hd
  have hpr : ∀ p ∈ preds ops i, l.getD p false = true := by
    intro p hp
    unfold preds at hp
    rw [ho] at hp
    simp only [List.mem_map, List.mem_filter] at hp
    obtain ⟨e, ⟨he, hb⟩, rfl⟩ := hp
    exact hpre e (by simpa using he) hb
  have hag : ∀ t ∈ o.looksAt ops, a1.tmps[t]? = a.tmps[t]? := by
    intro t ht
    by_cases hx : ∃ j, j < nq + na ∧ dsl ops j = some t
    · obtain ⟨j, hj, hjt⟩ := hx
      obtain ⟨_, h2, h3⟩ := hlk t ht j hj hjt
      exact (I.quiet j t h2 (hpr j h3) hjt).symm
    · rw [I.free t (fun j hj _ e => hx ⟨j, hj, e⟩), out t (fun j hj e => hx ⟨j, by omega, e⟩)]
  have hrun : (execOp a.eval o).run P w = .ok (.value (mkv i w.heap.size)) (w.alloc (als i)) := by
    rw [← exec_agree (Region.noSelect_spec s5 i o · · ho) hag]; exact hrun0
  have hil : i < l.size := by rw [I.size]; omega
  have hni : l.getD i false = false := by
    have := hnl
    simp [Array.getD_eq_getD_getElem?, hil] at this ⊢
    exact this
  unfold wpOp
  rw [ho]
  show if Region.wanted o (yielded ops a.tmps) = true then _ else _
  rw [if_pos (by simp [Region.wanted, hg])]
  refine .inl ?_
  unfold Oper.wp
  rw [hrun, Oper.upon_value]
  have hput : ∀ t, t ≠ d → (a.put o.dst (mkv i w.heap.size)).tmps[t]? = a.tmps[t]? := fun t ht => by rw [hod]; exact put_ne a _ (Ne.symm ht)
  have hother : ∀ j t, j < nq + na → j ≠ i → dsl ops j = some t → t ≠ d := fun j t hj hne ht e => by
    subst e
    rcases Nat.lt_or_gt_of_ne hne with h | h
    · exact hdist j h (by rw [hd, ht])
    · exact (s1 j hj).2.1 i h (by rw [hd, ht])
  have lt_of : ∀ {b : Nat} {ob : Obj}, w.heap[b]? = some ob → b < w.heap.size := fun h => (Array.getElem?_eq_some_iff.1 h).1
  refine ⟨fun j => if j = i then w.heap.size else bl j, by simp [I.size], fun k hk => ?_, fun j hj p hp => ?_, by rw [put_size]; exact I.tsize, by rw [put_defers]; exact I.defers, fun t ht => ?_, fun j t hj hl ht => ?_, I.below.alloc I.below.size _, fun j h1 h2 hl => ?_, fun j t h1 h2 hl ht => ?_, fun j k h1 h2 h3 h4 hl hk hne => ?_⟩
  · rw [getD_set l i k hil, if_neg (by omega)]; exact I.late k hk
  · rw [getD_set l i p hil]
    rw [getD_set l i j hil] at hj
    by_cases e : i = j
    · subst e
      rw [hpr p hp]; simp
    · rw [if_neg e] at hj
      rw [I.down j hj p hp]; simp
  · have hne : t ≠ d := fun e => ht i (by omega) (by rw [getD_set l i i hil, if_pos rfl]) (by rw [hd, e])
    rw [hput t hne]
    exact I.free t fun j hj hl => ht j hj (by rw [getD_set l i j hil, hl]; simp)
  · rw [getD_set l i j hil, if_neg (by omega)] at hl
    rw [hput t (hother j t (by omega) (by omega) ht)]
    exact I.quiet j t hj hl ht
  · rw [getD_set l i j hil] at hl
    by_cases e : j = i
    · subst e
      simp only [if_true]
      exact ⟨I.below.size, by show (w.heap.push (als j))[w.heap.size]? = _; simp⟩
    · rw [if_neg (Ne.symm e)] at hl
      simp only [e, if_false]
      obtain ⟨k1, k2⟩ := I.lo j h1 h2 hl
      exact ⟨k1, by rw [Below.heap_alloc _ _ _ (lt_of k2)]; exact k2⟩
  · rw [getD_set l i j hil] at hl
    by_cases e : j = i
    · subst e
      rw [hd] at ht
      cases ht
      simp only [if_true]
      rw [hod, put_at, I.tsize]
    · rw [if_neg (Ne.symm e)] at hl
      simp only [e, if_false]
      rw [hput t (hother j t h2 e ht)]
      exact I.slot j t h1 h2 hl ht
  · rw [getD_set l i j hil] at hl
    rw [getD_set l i k hil] at hk
    by_cases e : j = i
    · subst e
      have e' : k ≠ j := Ne.symm hne
      rw [if_neg (Ne.symm e')] at hk
      simp only [e', if_true, if_false]
      have := lt_of (I.lo k h3 h4 hk).2
      omega
    · rw [if_neg (Ne.symm e)] at hl
      by_cases e' : k = i
      · subst e'
        simp only [e, if_true, if_false]
        have := lt_of (I.lo j h1 h2 hl).2
        omega
      · rw [if_neg (Ne.symm e')] at hk
        simp only [e, e', if_false]
        exact I.inj j k h1 h2 h3 h4 hl hk hne

def left (n : Nat) (l : Array Bool) : Nat := ((List.range n).filter fun i => !l.getD i false).length
theorem left_set (n : Nat) (l : Array Bool) (i : Nat) (hi : i < n) (hl : i < l.size) (h : l.getD i false = false) : left n (l.setIfInBounds i true) + 1 = left n l := by
  unfold left
  have key : ∀ (xs : List Nat), xs.Nodup → i ∈ xs → (xs.filter fun j => !(l.setIfInBounds i true).getD j false).length + 1 = (xs.filter fun j => !l.getD j false).length := by
    intro xs
    induction xs with
    | nil => intro _ h; simp at h
    | cons x xs ih =>
      intro hn hm
      rw [List.nodup_cons] at hn
      by_cases e : x = i
      · subst e
        have hrest : (xs.filter fun j => !(l.setIfInBounds x true).getD j false) = xs.filter fun j => !l.getD j false := List.filter_congr fun j hj => by
          rw [getD_set l x j hl, if_neg (fun e => hn.1 (by rw [e]; exact hj))]
        rw [List.filter_cons, List.filter_cons, hrest, getD_set l x x hl, if_pos rfl, h]
        simp
      · have hm' : i ∈ xs := by
          rcases List.mem_cons.1 hm with h | h
          · exact absurd h.symm e
          · exact h
        have := ih hn.2 hm'
        rw [List.filter_cons, List.filter_cons, getD_set l i x hl, if_neg (Ne.symm e)]
        cases l.getD x false
        · simp only [Bool.not_false, if_true, List.length_cons]; omega
        · simpa using this
  exact key _ List.nodup_range (List.mem_range.2 hi)
theorem left_zero {n : Nat} {l : Array Bool} (h : left n l = 0) : ∀ i, i < n → l.getD i false = true := by
  intro i hi
  unfold left at h
  rw [List.length_eq_zero_iff, List.filter_eq_nil_iff] at h
  have := h i (List.mem_range.2 hi)
  simpa using this

theorem phase_any (hB : phaseB ops nq na = true) (out : ∀ t, (∀ j, j < nq → dsl ops j ≠ some t) → a1.tmps[t]? = a0.tmps[t]?) (hz : a1.tmps.size = a0.tmps.size) (hdf : a1.defers = a0.defers)
    (hF : ∀ i, i < nq → ∀ bs, Nonempty (Gb W bs) → ∀ o d, ops[i]? = some o → dsl ops i = some d → Fix P ops (fun w' => ∃ t : Gb W bs, w' = t.wd) a1 o d)
    (hal : ∀ i, nq ≤ i → i < nq + na → ∃ o, ops[i]? = some o ∧ o.guard = none ∧ ∀ w : World, (execOp a1.eval o).run P w = .ok (.value (mkv i w.heap.size)) (w.alloc (als i)))
    (dl : List Tmp) (hdl : ∀ k, dl[k]? = if k < na then dsl ops (nq + k) else none)
    (hfin : ∀ (bl : Nat → Nat) (w : World), Below W.heap.size W w → (∀ i, nq ≤ i → i < nq + na → W.heap.size ≤ bl i ∧ w.heap[bl i]? = some (als i)) → (∀ i j, nq ≤ i → i < nq + na → nq ≤ j → j < nq + na → i ≠ j → bl i ≠ bl j) →
      wpAny P .any ops Q (ops.size - (nq + na)) ((Array.range ops.size).map fun k => decide (k < nq + na)) (layL mkv bl nq dl a1) w) :
    ∀ (n : Nat) (bl : Nat → Nat) (l : Array Bool) (a : Act) (w : World), left (nq + na) l = n → PInv ops W a0 a1 mkv als nq na bl l a w → wpAny P .any ops Q (n + (ops.size - (nq + na))) l a w := by
  obtain ⟨s1, s2, s3, s4, s5⟩ := phase_spec hB
  intro n
  induction n with
  | zero =>
    intro bl l a w hn I
    have hall := left_zero hn
    have hl : l = (Array.range ops.size).map fun k => decide (k < nq + na) := by
      refine Array.ext_getElem? fun k => ?_
      by_cases hk : k < ops.size
      · have hk' : k < l.size := by rw [I.size]; exact hk
        have e1 : l[k]? = some (l.getD k false) := by simp [Array.getD_eq_getD_getElem?, hk']
        rw [e1]
        by_cases h : k < nq + na
        · rw [hall k h]; simp [hk, h]
        · rw [I.late k (by omega)]; simp [hk, h]
      · have hk' : ¬ k < l.size := by rw [I.size]; exact hk
        simp [hk, hk']
    have ha : a = layL mkv bl nq dl a1 := by
      have hs : a.tmps.size = (layL mkv bl nq dl a1).tmps.size := by rw [layL_size, I.tsize, hz]
      have ht : a.tmps = (layL mkv bl nq dl a1).tmps := by
        refine Array.ext_getElem? fun t => ?_
        by_cases hx : ∃ k, k < na ∧ dsl ops (nq + k) = some t
        · obtain ⟨k, hk, hkt⟩ := hx
          rw [layL_at mkv bl dl nq a1 t k (by rw [hdl, if_pos hk, hkt]) (fun j hj e => by
            rw [hdl] at e
            by_cases h : j < na
            · rw [if_pos h] at e
              rcases Nat.lt_or_gt_of_ne hj with h' | h'
              · exact (s1 (nq + k) (by omega)).2.1 (nq + j) (by omega) (by rw [hkt, e])
              · exact (s1 (nq + j) (by omega)).2.1 (nq + k) (by omega) (by rw [hkt, e])
            · rw [if_neg h] at e; simp at e), hz]
          exact I.slot (nq + k) t (by omega) (by omega) (hall _ (by omega)) hkt
        · have hne : ∀ k : Nat, dl[k]? ≠ some t := fun k e => by
            rw [hdl] at e
            by_cases h : k < na
            · rw [if_pos h] at e; exact hx ⟨k, h, e⟩
            · rw [if_neg h] at e; simp at e
          rw [layL_ne mkv bl dl nq a1 t hne]
          by_cases hy : ∃ i, i < nq ∧ dsl ops i = some t
          · obtain ⟨i, hi, hit⟩ := hy
            exact I.quiet i t hi (hall i (by omega)) hit
          · rw [out t (fun j hj e => hy ⟨j, hj, e⟩)]
            refine I.free t fun i hi _ e => ?_
            by_cases h : i < nq
            · exact hy ⟨i, h, e⟩
            · exact hx ⟨i - nq, by omega, by rw [show nq + (i - nq) = i by omega]; exact e⟩
      have hd : a.defers = (layL mkv bl nq dl a1).defers := by rw [layL_defers, I.defers, hdf]
      cases a
      cases hL : layL mkv bl nq dl a1
      rw [hL] at ht hd
      simp only at ht hd
      rw [ht, hd]
    rw [Nat.zero_add, hl, ha]
    exact hfin bl w I.below (fun i h1 h2 => I.lo i h1 h2 (hall i h2)) (fun i j h1 h2 h3 h4 => I.inj i j h1 h2 h3 h4 (hall i h2) (hall j h4))
  | succ n ih =>
    intro bl l a w hn I
    have hex : ∃ i, i < nq + na ∧ l.getD i false = false := by
      refine Classical.byContradiction fun h => ?_
      have : left (nq + na) l = 0 := by
        unfold left
        rw [List.length_eq_zero_iff, List.filter_eq_nil_iff]
        intro i hi
        cases e : l.getD i false
        · exact absurd ⟨i, List.mem_range.1 hi, e⟩ h
        · simp
      omega
    have first : ∀ i ∈ Region.ready .any ops l, i < nq + na ∧ l.getD i false = false := by
      intro i hi
      obtain ⟨hnl, o, ho, hpre⟩ := mem_ready.1 hi
      have his : i < ops.size := (Array.getElem?_eq_some_iff.1 ho).1
      have hil : i < l.size := by rw [I.size]; exact his
      have hni : l.getD i false = false := by
        have := hnl
        simp [Array.getD_eq_getD_getElem?, hil] at this ⊢
        exact this
      refine ⟨Classical.byContradiction fun hge => ?_, hni⟩
      obtain ⟨j, hj, hjl⟩ := hex
      have hpr : ∀ p ∈ preds ops i, l.getD p false = true := by
        intro p hp
        unfold preds at hp
        rw [ho] at hp
        simp only [List.mem_map, List.mem_filter] at hp
        obtain ⟨e, ⟨he, hb⟩, rfl⟩ := hp
        exact hpre e (by simpa using he) hb
      have hcl : ∀ (f : Nat) (s : List Nat), (∀ p ∈ s, l.getD p false = true) → ∀ p ∈ clo ops (nq + na) f s, l.getD p false = true := by
        intro f
        induction f with
        | zero => intro s hs p hp; exact hs p hp
        | succ f ihf =>
          intro s hs
          refine ihf _ fun p hp => ?_
          rw [List.mem_append, List.mem_filter] at hp
          rcases hp with hp | ⟨_, hp⟩
          · exact hs p hp
          · rw [Bool.and_eq_true, List.any_eq_true] at hp
            obtain ⟨_, q, hq, hqp⟩ := hp
            exact I.down q (hs q hq) p (by simpa using hqp)
      rw [hcl 30 _ hpr j (s3 i (by omega) his j hj)] at hjl
      simp at hjl
    rw [show n + 1 + (ops.size - (nq + na)) = n + (ops.size - (nq + na)) + 1 by omega]
    refine ⟨fun he => ?_, fun i hi => ?_⟩
    · exfalso
      have hmin : ∀ m, ∀ i, i ≤ m → i < nq + na → l.getD i false = false → False := by
        intro m
        induction m with
        | zero =>
          intro i him hi hil
          refine absurd (mem_ready (md := .any).2 ⟨?_, ?_⟩ : i ∈ Region.ready .any ops l) (by rw [he]; simp)
          · have : i < l.size := by rw [I.size]; omega
            simp [Array.getD_eq_getD_getElem?, this] at hil ⊢
            exact hil
          · refine ⟨ops[i]'(by omega), by simp, fun e hem hb => ?_⟩
            have : e.on ∈ preds ops i := by
              unfold preds
              rw [show ops[i]? = some (ops[i]'(by omega)) by simp]
              simp only [List.mem_map, List.mem_filter]
              exact ⟨e, ⟨by simpa using hem, hb⟩, rfl⟩
            have := (s1 i hi).2.2 _ this
            omega
        | succ m ihm =>
          intro i him hi hil
          refine absurd (mem_ready (md := .any).2 ⟨?_, ?_⟩ : i ∈ Region.ready .any ops l) (by rw [he]; simp)
          · have : i < l.size := by rw [I.size]; omega
            simp [Array.getD_eq_getD_getElem?, this] at hil ⊢
            exact hil
          · refine ⟨ops[i]'(by omega), by simp, fun e hem hb => ?_⟩
            have hp : e.on ∈ preds ops i := by
              unfold preds
              rw [show ops[i]? = some (ops[i]'(by omega)) by simp]
              simp only [List.mem_map, List.mem_filter]
              exact ⟨e, ⟨by simpa using hem, hb⟩, rfl⟩
            have hlt := (s1 i hi).2.2 _ hp
            cases hv : l.getD e.on false
            · exact absurd (ihm e.on (by omega) (by omega) hv) (fun h => h)
            · rfl
      obtain ⟨i, hi, hil⟩ := hex
      exact hmin i i (Nat.le_refl _) hi hil
    · obtain ⟨hlt, hni⟩ := first i hi
      have hil : i < l.size := by rw [I.size]; omega
      have hleft : left (nq + na) (l.setIfInBounds i true) = n := by
        have := left_set (nq + na) l i hlt hil hni
        omega
      by_cases hq : i < nq
      · exact wpOp_mono (fun a' w' h => ih bl _ a' w' hleft h) (I.stepQuiet hB hq hi out hz (hF i hq))
      · obtain ⟨o, ho, hg, hrun⟩ := hal i (by omega) hlt
        exact wpOp_mono (fun a' w' ⟨bl', h⟩ => ih bl' _ a' w' hleft h) (I.stepAlloc hB (by omega) hlt hi out ho hg (hrun w))
end steps

theorem wp_region_phase {id : Nat} {a0 : Act} {W : World} (a1 : Act) (nq na : Nat) (mkv : Nat → Nat → Value) (als : Nat → Obj) (dl : List Tmp) (hm : P.follows .mixedOrders = true) (hB : phaseB ops nq na = true)
    (hdl : ∀ k, dl[k]? = if k < na then dsl ops (nq + k) else none)
    (hq : ∀ bs, Nonempty (Gb W bs) → wpQuiet P ops (fun w' => ∃ t : Gb W bs, w' = t.wd) (fun a' => a' = a1) (ops.toList.take nq) a0)
    (hal : ∀ i, nq ≤ i → i < nq + na → ∃ o, ops[i]? = some o ∧ o.guard = none ∧ ∀ w : World, (execOp a1.eval o).run P w = .ok (.value (mkv i w.heap.size)) (w.alloc (als i)))
    (hfin : ∀ (bl : Nat → Nat) (w : World), Below W.heap.size W w → (∀ i, nq ≤ i → i < nq + na → W.heap.size ≤ bl i ∧ w.heap[bl i]? = some (als i)) → (∀ i j, nq ≤ i → i < nq + na → nq ≤ j → j < nq + na → i ≠ j → bl i ≠ bl j) →
      wpAny P .any ops Q (ops.size - (nq + na)) ((Array.range ops.size).map fun k => decide (k < nq + na)) (layL mkv bl nq dl a1) w) :
    (Code.region id ops true).wp P Q a0 W := by
  obtain ⟨s1, s2, s3, s4, s5⟩ := phase_spec hB
  have hlen : (ops.toList.take nq).length = nq := by simp; omega
  have walk : ∀ bs, Nonempty (Gb W bs) → _ := fun bs hne => fix_of_walk (P := P) (ops := ops) (C := fun w' => ∃ t : Gb W bs, w' = t.wd) (a1 := a1) (Region.noSelect_spec s5) (ops.toList.take nq) 0 a0
    (fun j => by
      by_cases h : j < nq
      · refine .inr ⟨by simp [h], by omega⟩
      · exact .inl (by simp; omega))
    (fun j hj => by rw [Nat.zero_add]; exact (s1 j (by rw [hlen] at hj; omega)).1)
    (fun i j h1 h2 => (s1 i (by rw [hlen] at h2; omega)).2.1 j h1)
    (fun i o _ h2 h3 t ht j h4 h5 e => by
      rw [hlen] at h2 h5
      obtain ⟨o', ho', hl⟩ := s2 i (by omega)
      rw [h3] at ho'
      cases ho'
      have := (hl t ht j (by omega) e).1
      omega) (hq bs hne)
  obtain ⟨w1, w2, w3, _⟩ := walk [] ⟨⟨W, Below.refl _ _, fun p hp => by simp at hp⟩⟩
  refine wp_region_any hm ?_
  have hfa := phase_any (P := P) (Q := Q) (W := W) (a0 := a0) (a1 := a1) (mkv := mkv) (als := als) hB (fun t ht => w3 t (fun j hj => by rw [Nat.zero_add]; exact ht j (by rw [hlen] at hj; omega))) w1 w2
    (fun i hi bs hne o d ho hd => (walk bs hne).2.2.2 i o d (Nat.zero_le _) (by rw [hlen]; omega) ho hd) hal dl hdl hfin (nq + na) (fun _ => 0) (Array.replicate ops.size false) a0 { W with drawn := W.drawn + 1 }
  have hf0 : ∀ k, (Array.replicate ops.size false).getD k false = false := fun k => by
    simp [Array.getD_eq_getD_getElem?, Array.getElem?_replicate]
    split <;> rfl
  have hl0 : left (nq + na) (Array.replicate ops.size false) = nq + na := by
    unfold left
    rw [List.filter_eq_self.2 (fun i _ => by rw [hf0]; rfl), List.length_range]
  have := hfa hl0 ⟨by simp, fun k _ => hf0 k, fun i h => by rw [hf0] at h; simp at h, rfl, rfl, fun _ _ => rfl, fun i d _ h => by rw [hf0] at h; simp at h, (Below.refl _ W).drew,
    fun i _ _ h => by rw [hf0] at h; simp at h, fun i d _ _ h => by rw [hf0] at h; simp at h, fun i j _ _ _ _ h => by rw [hf0] at h; simp at h⟩
  rwa [show nq + na + (ops.size - (nq + na)) = ops.size by omega] at this

theorem wp_region_lit {id : Nat} {a0 : Act} {W : World} {l : List Oper} (nq na ns : Nat) (mkv : Nat → Nat → Value) (als : Nat → Obj) (dl : List Tmp) (hm : P.follows .mixedOrders = true) (hB : phaseB l.toArray nq na = true) (hns : l.length - (nq + na) = ns)
    (hdl : ∀ k, k < na → dl[k]? = dsl l.toArray (nq + k)) (hdn : dl.length = na)
    (h : ∃ a1 : Act, (∀ bs, Nonempty (Gb W bs) → wpQuiet P l.toArray (fun w' => ∃ t : Gb W bs, w' = t.wd) (fun a' => a' = a1) (l.take nq) a0) ∧
      (∀ i, nq ≤ i → i < nq + na → ∃ o, l.toArray[i]? = some o ∧ o.guard = none ∧ ∀ w : World, (execOp a1.eval o).run P w = .ok (.value (mkv i w.heap.size)) (w.alloc (als i))) ∧
      ∀ (bl : Nat → Nat) (w : World), Below W.heap.size W w → (∀ i, nq ≤ i → i < nq + na → W.heap.size ≤ bl i ∧ w.heap[bl i]? = some (als i)) → (∀ i j, nq ≤ i → i < nq + na → nq ≤ j → j < nq + na → i ≠ j → bl i ≠ bl j) →
        wpAny P .any l.toArray Q ns ((Array.range l.length).map fun k => decide (k < nq + na)) (layL mkv bl nq dl a1) w) :
    (Code.region id l.toArray true).wp P Q a0 W := by
  obtain ⟨a1, hq, hal, hfin⟩ := h
  refine wp_region_phase a1 nq na mkv als dl hm hB (fun k => ?_) (by simpa using hq) hal (fun bl w h1 h2 h3 => ?_)
  · by_cases h : k < na
    · rw [if_pos h]; exact hdl k h
    · rw [if_neg h]; simp; omega
  · have := hfin bl w h1 h2 h3
    rw [← hns] at this
    simpa using this

end
end R4

end Go.Proofs.YtapachlhdgehjaaGreatDoor

/-
  slices.Repeat of one cell; Blank.
-/
namespace Go.Proofs.YtapachlhdgehjaaGreatDoor
open Go.RowKit

theorem and_smallK (n : Nat) (hn : n ≤ 262144) : bits BinOp.and IntKind.u64 (n : Int) 4294967295 = n := by
  rw [and_low32 _ (by omega) (by omega)]
  omega

set_option maxHeartbeats 1000000 in
theorem mul64K_any (n : Nat) (hn : n ≤ 262144) (w : World) : Calls Tryz.prog 110 #[.int .u64 1, .int .u64 n] w fun e w' => e = .returned (.tuple #[.int .u64 0, .int .u64 n]) ∧ w' = w := by
  have h1 := and_smallK n hn
  have h2 : bits BinOp.and IntKind.u64 1 4294967295 = 1 := by decide +kernel
  have h3 : bits BinOp.and IntKind.u64 0 4294967295 = 0 := by decide +kernel
  have h4 : (n : Int) / 4294967296 = 0 := by omega
  have h5 : IntKind.u64.wrap (n : Int) = n := by rw [IntKind.wrap_u64]; omega
  have h6 : IntKind.u64.wrap 0 = 0 := by rw [IntKind.wrap_u64]; rfl
  go_enter Tryz.func110, Tryz.ntmps110
  go_wp2
  go_ret2
  exact ⟨rfl, rfl⟩

set_option maxHeartbeats 1000000 in
theorem mulK_any (n : Nat) (hn : n ≤ 262144) (w : World) : Calls Tryz.prog 73 #[.int .u64 1, .int .u64 n] w fun e w' => e = .returned (.tuple #[.int .u64 0, .int .u64 n]) ∧ w' = w := by
  have HM : Hid (∀ W, Calls Tryz.prog 110 #[.int .u64 1, .int .u64 n] W fun e w' => e = .returned (.tuple #[.int .u64 0, .int .u64 n]) ∧ w' = W) := fun W => mul64K_any n hn W
  go_enter Tryz.func73, Tryz.ntmps73
  go_wp2_with fail
  refine (HM.out _).mono ?_
  rintro e w1 ⟨rfl, rfl⟩
  go_wp2
  go_ret2
  exact ⟨rfl, rfl⟩

set_option maxRecDepth 10000 in
theorem make_cellsZ (n : Nat) (hn : n < 1000000) (w : World) : (Instr.makeSlice 24 (.int .i64 (n : Nat)) (.int .i64 (n : Nat))).run Tryz.prog w = .ok (.slice (some ⟨w.heap.size, 0, none⟩) n n) (w.alloc (.cells (flatC (List.replicate n zCe)).toArray 65)) := by
  obtain ⟨i0, hi, hz0, hz1, hz2⟩ := info_parts info_cell
  have h := run_make (P := Tryz.prog) w 24 65 i0 _ Tryz.underlying24 hi hz0 .i64 .i64 (n : Int) (n : Int) (by omega) (Int.le_refl _) (by rw [hz2]; omega) (by omega)
  simp only [Int.toNat_natCast, hz1] at h
  rw [h]
  congr 3
  refine Array.ext (by simp [size_madeCells, flatC_len]) fun i h1 h2 => ?_
  have h3 : i % 11 < 11 := Nat.mod_lt _ (by omega)
  have h4 : i < n * 11 := by simpa [flatC_len] using h2
  have e : (flatC (List.replicate n zCe))[i]? = (cCel zCe)[i % 11]? := by
    have q := flatC_at (List.replicate n zCe) (i / 11) (by rw [List.length_replicate]; omega) (i % 11) h3
    rw [show i / 11 * 11 + i % 11 = i by omega] at q
    rw [q, List.getElem_replicate]
  have e2 : ((flatC (List.replicate n zCe)).toArray[i]'h2) = (cCel zCe)[i % 11]'(by rw [cCel_len]; exact h3) := by
    have h5 : i < (flatC (List.replicate n zCe)).length := by simpa using h2
    rw [List.getElem?_eq_getElem h5, List.getElem?_eq_getElem (by rw [cCel_len]; exact h3)] at e
    simpa using e
  rw [e2]
  simp [madeCells, Value.cells]
  generalize i % 11 = j at h3
  match j, h3 with
  | 0, _ => rfl
  | 1, _ => rfl
  | 2, _ => rfl
  | 3, _ => rfl
  | 4, _ => rfl
  | 5, _ => rfl
  | 6, _ => rfl
  | 7, _ => rfl
  | 8, _ => rfl
  | 9, _ => rfl
  | 10, _ => rfl

theorem Bk.alk {w : World} {b : Nat} {cs : Array Value} {t : TypeId} (h : Bk w b cs t) (o : Obj) : Bk (w.alloc o) b cs t := h.below ((Below.refl _ w).alloc (Nat.le_refl _) o)
def RpC (n c : Nat) (x : Ce) (g : Nat) (w wr : World) : Prop := Bk wr g (flatC (fillC x n c)).toArray 65 ∧ Below w.heap.size w wr ∧ w.heap.size ≤ g
theorem oneCc (l : List Ce) : ∀ v ∈ flatC l, v.oneCell' = true := by
  induction l with
  | nil => intro v h; cases h
  | cons c l ih =>
    intro v h
    rcases List.mem_append.1 (show v ∈ cCel c ++ flatC l from h) with h | h
    · simp only [cCel, List.mem_cons, List.not_mem_nil, or_false] at h
      rcases h with rfl | rfl | rfl | rfl | rfl | rfl | rfl | rfl | rfl | rfl | rfl <;> rfl
    · exact ih v h
theorem repC_src {w : World} {b c : Nat} {x : Ce} (hb : Bk w b (#[.int .i32 x.r, .int .u8 x.c.r, .int .u8 x.c.g, .int .u8 x.c.b, .int .u8 x.c.a, .int .u8 x.b.r, .int .u8 x.b.g, .int .u8 x.b.b, .int .u8 x.b.a, .bool x.wd, .bool x.tl]) 65) (hc : c ≤ 1) : ∀ (j : Nat) (v : Value), (flatC (List.replicate c x))[j]? = some v → w.cell? ((⟨b, 0, none⟩ : Addr).add j) = some v := by
  intro j v hj
  have hlt := (List.getElem?_eq_some_iff.1 hj).1
  rw [flatC_len, List.length_replicate] at hlt
  obtain rfl : c = 1 := by omega
  have e : flatC (List.replicate 1 x) = cCel x := flatC_one x
  rw [e] at hj
  have e2 : ((⟨b, 0, none⟩ : Addr).add j) = ⟨b, j, none⟩ := by
    simp [Addr.add]
    intro h
    exact h.symm
  rw [e2, Bk.cell hb, ← hj]
  show (cCel x).toArray[j]? = _
  simp
theorem fillC_src {w : World} {g n c m : Nat} {x : Ce} (hg : Bk w g (flatC (fillC x n c)).toArray 65) (hm : m ≤ c) : ∀ (j : Nat) (v : Value), (flatC (List.replicate m x))[j]? = some v → w.cell? ((⟨g, 0, none⟩ : Addr).add j) = some v := by
  intro j v hj
  have hlt := (List.getElem?_eq_some_iff.1 hj).1
  rw [flatC_len, List.length_replicate] at hlt
  have h3 : j % 11 < 11 := Nat.mod_lt _ (by omega)
  have e2 : ((⟨g, 0, none⟩ : Addr).add j) = ⟨g, j, none⟩ := by
    simp [Addr.add]
    intro h
    exact h.symm
  rw [e2, Bk.cell hg, ← hj]
  have q1 := flatC_at (List.replicate m x) (j / 11) (by rw [List.length_replicate]; omega) (j % 11) h3
  have q2 := flatC_at (fillC x n c) (j / 11) (by unfold fillC; simp; omega) (j % 11) h3
  rw [show j / 11 * 11 + j % 11 = j by omega] at q1 q2
  rw [q1]
  rw [show (flatC (fillC x n c)).toArray[j]? = (flatC (fillC x n c))[j]? by simp, q2]
  congr 2
  unfold fillC
  rw [List.getElem_append_left (by rw [List.length_replicate]; omega), List.getElem_replicate, List.getElem_replicate]

set_option maxRecDepth 10000 in
set_option maxHeartbeats 8000000 in
theorem repeatC_any (n : Nat) (hn : n ≤ 262144) (b : Nat) (x : Ce) (w : World) (hb : Bk w b (#[.int .i32 x.r, .int .u8 x.c.r, .int .u8 x.c.g, .int .u8 x.c.b, .int .u8 x.c.a, .int .u8 x.b.r, .int .u8 x.b.g, .int .u8 x.b.b, .int .u8 x.b.a, .bool x.wd, .bool x.tl]) 65) :
    Calls Tryz.prog 40 #[.slice (some ⟨b, 0, none⟩) 1 1, .int .i64 n] w fun e w' => ∃ g, e = .returned (.slice (some ⟨g, 0, none⟩) n n) ∧ Hid (Bk w' g (flatC (List.replicate n x)).toArray 65 ∧ Below w.heap.size w w' ∧ w.heap.size ≤ g) := by
  have HM : Hid (∀ W, Calls Tryz.prog 73 #[.int .u64 1, .int .u64 n] W fun e w' => e = .returned (.tuple #[.int .u64 0, .int .u64 n]) ∧ w' = W) := fun W => mulK_any n hn W
  have hw1 : IntKind.u64.wrap (n : Int) = n := by rw [IntKind.wrap_u64]; omega
  have hw2 : IntKind.i64.wrap (n : Int) = n := by rw [IntKind.wrap_i64]; omega
  have h9 : ¬ (9223372036854775807 : Int) < n := by omega
  have h0 : ¬ (n : Int) < 0 := by omega
  have hmk := make_cellsZ n (by omega) w
  have HB : Hid (Bk w b (#[.int .i32 x.r, .int .u8 x.c.r, .int .u8 x.c.g, .int .u8 x.c.b, .int .u8 x.c.a, .int .u8 x.b.r, .int .u8 x.b.g, .int .u8 x.b.b, .int .u8 x.b.a, .bool x.wd, .bool x.tl]) 65) := hb
  have H0 : Hid (RpC n 0 x w.heap.size w (w.alloc (.cells (flatC (List.replicate n zCe)).toArray 65))) := by
    refine ⟨?_, (Below.refl _ _).alloc (Nat.le_refl _) _, Nat.le_refl _⟩
    have e : fillC x n 0 = List.replicate n zCe := by simp [fillC]
    rw [e]
    exact Bk.new w _ _
  have HC : Hid (Bk (w.alloc (.cells (flatC (List.replicate n zCe)).toArray 65)) b (#[.int .i32 x.r, .int .u8 x.c.r, .int .u8 x.c.g, .int .u8 x.c.b, .int .u8 x.c.a, .int .u8 x.b.r, .int .u8 x.b.g, .int .u8 x.b.b, .int .u8 x.b.a, .bool x.wd, .bool x.tl]) 65) := Bk.alk hb _
  clear hb
  obtain ⟨c0, hc0⟩ : ∃ c0, c0 = min n 1 := ⟨_, rfl⟩
  have hc1 : c0 ≤ 1 ∧ c0 ≤ n ∧ (0 < n → 0 < c0) := by omega
  have Hc0 : Hid (c0 = min n 1) := hc0
  clear hc0
  go_enter Tryz.func40, Tryz.ntmps40
  go_wp2_with fail
  refine (HM.out _).mono ?_
  rintro e w1 ⟨rfl, rfl⟩
  obtain ⟨W0, HW0⟩ : ∃ W0, Hid (W0 = w1) := ⟨_, rfl⟩
  have H0' : Hid (RpC n 0 x w1.heap.size W0 (w1.alloc (.cells (flatC (List.replicate n zCe)).toArray 65))) := by rw [HW0.out]; exact H0.out
  have Hmin : Hid (c0 = Nat.min 1 n) := by have := Hc0.out; show c0 = min 1 n; omega
  have hlen : (flatC (List.replicate c0 x)).length = c0 * 11 := by rw [flatC_len, List.length_replicate]
  go_wp2_with (refine wpList_copyK rfl _ _ 24 24 rfl 65 11 Tryz.underlying24 cell_size (some ⟨w1.heap.size, 0, none⟩) (some ⟨b, 0, none⟩) n n 1 1 (by rfl) (by rfl) w1.heap.size 0 (flatC (fillC x n 0)) 65 H0'.out.1 (flatC (List.replicate c0 x)) c0 Hmin.out hlen (fun _ => ⟨rfl, ⟨b, 0, none⟩, rfl, repC_src HC.out hc1.1⟩) (by rw [hlen, flatC_len, fillC_len (by omega)]; omega) (oneCc _) W0.heap.size W0 H0'.out.2.1 H0'.out.2.2 ?_)
  intro w2 HG2
  obtain ⟨g, Hg⟩ : ∃ g, Hid (g = w1.heap.size) := ⟨_, rfl⟩
  have H2 : Hid (RpC n c0 x g W0 w2) := by
    refine ⟨?_, HG2.out.2.1, by rw [Hg.out]; exact H0'.out.2.2⟩
    have q := HG2.out.1
    have r := fillC_splice (c := x) (n := n) (k := 0) (m := c0) (by omega)
    have r2 := splice_flat (fillC x n 0) (List.replicate c0 x) 0
    rw [Nat.zero_mul] at r2
    rw [r2, r, Nat.zero_add] at q
    rw [Hg.out]
    exact q
  rw [← Hg.out]
  clear HG2 H0' H0 HC HB hlen hmk Hmin h9
  have Hw : Hid (W0.heap.size = w1.heap.size) := by unfold Hid; rw [HW0.out]
  go_wp2_with fail
  go_loopw [8] (fun i wr => ∃ c : Nat, i = .int .i64 c ∧ c ≤ n ∧ (0 < n → 0 < c) ∧ Hid (RpC n c x g W0 wr)) (fun i _ => n - (intOf i).toNat)
  case atStart => exact ⟨c0, rfl, hc1.2.1, hc1.2.2, H2⟩
  case round =>
    obtain ⟨c, rfl, hcn, hcp, HR⟩ := hrel
    clear H2
    by_cases hlt : c < n
    · have ik : (c : Int) < n := by omega
      have ik2 : (c : Int) ≤ n := by omega
      have hne : ¬ c = n := by omega
      go_wp2_with fail
      obtain ⟨m, Hm⟩ : ∃ m, Hid (m = min (n - c) c) := ⟨_, rfl⟩
      have hm : m ≤ c ∧ c + m ≤ n ∧ 0 < m := by have := Hm.out; have := hcp (by omega); omega
      have Hmin2 : Hid (m = Nat.min c (n - c)) := by have := Hm.out; show m = min c (n - c); omega
      have hml : (flatC (List.replicate m x)).length = m * 11 := by rw [flatC_len, List.length_replicate]
      have hwm : IntKind.i64.wrap ((c : Int) + (m : Int)) = c + m := by rw [IntKind.wrap_i64]; omega
      go_region_law (refine step_copyK rfl (.tmp 41) (.tmp 44) 24 24 rfl 65 11 Tryz.underlying24 cell_size (some ⟨g, c * 11, none⟩) (some ⟨g, 0, none⟩) (n - c) (n - c) c n (by simp [Act.eval, Act.put] <;> omega) (by simp [Act.eval, Act.put]) g (c * 11) (flatC (fillC x n c)) 65 HR.out.1 (flatC (List.replicate m x)) m Hmin2.out hml (fun _ => ⟨rfl, ⟨g, 0, none⟩, rfl, fillC_src HR.out.1 hm.1⟩) (by rw [hml, flatC_len, fillC_len (by omega)]; omega) (oneCc _) W0.heap.size W0 (by repeat (first | exact HR.out.2.1 | refine Below.drew ?_)) HR.out.2.2 ?_; intro w5 H5)
      all_goals
        have H6 : Hid (RpC n (c + m) x g W0 w5) := by
          refine ⟨?_, H5.out.2.1, HR.out.2.2⟩
          have q := H5.out.1
          rw [splice_flat, fillC_splice (by omega)] at q
          exact q
        clear H5 HR
        go_wp2
        exact ⟨⟨c + m, by go_num, by omega, fun _ => by omega, H6⟩, by simp [intOf]; omega⟩
    · obtain rfl : c = n := by omega
      have HF : Hid (Bk wr g (flatC (List.replicate c x)).toArray 65 ∧ Below w1.heap.size w1 wr ∧ w1.heap.size ≤ g) := by
        have q := HR.out
        unfold RpC at q
        rw [fillC_end, HW0.out] at q
        exact q
      clear HR
      go_wp2
      go_ret
      exact ⟨_, rfl, HF⟩

end Go.Proofs.YtapachlhdgehjaaGreatDoor
