/-
  Texts of this claim, one behind the other: what each is about stands ahead of it.
-/
import Derived.Deep.QuietTactic
import Derived.Below
/-
  A law for regions that draw their order: first operations that only read or call what leaves old memory alone, and new variables; then stores. One walk of the text serves every order.
-/
namespace Go.Proofs.YtapachlhdgehjaaGreatDoor
open Go.RowKit

structure Gb (W : World) (bs : List (Nat × Obj)) where
  wd : World
  below : Below W.heap.size W wd
  held : ∀ p ∈ bs, wd.heap[p.1]? = some p.2

def preds (ops : Array Oper) (i : Nat) : List Nat :=
  match ops[i]? with
  | some o => (o.after.toList.filter fun e => Region.binds .any e).map (·.on)
  | none => []
def dsl (ops : Array Oper) (i : Nat) : Option Tmp := (ops[i]?).bind (·.dst)
def phaseB (ops : Array Oper) (nq na : Nat) : Bool :=
  ((List.range (nq + na)).all fun i => (dsl ops i).isSome && ((List.range i).all fun j => dsl ops j != dsl ops i) && (preds ops i).all fun p => decide (p < i)) &&
  ((List.range nq).all fun i => match ops[i]? with
    | none => false
    | some o => (o.looksAt ops).all fun t => (List.range (nq + na)).all fun j => dsl ops j != some t || (decide (j < i) && (decide (j < nq) && (preds ops i).contains j))) &&
  (((List.range ops.size).drop (nq + na)).all fun k => (List.range (nq + na)).all fun i => (preds ops k).contains i || (preds ops k).any fun j => (preds ops j).contains i) &&
  decide (nq + na ≤ ops.size) && Region.noSelect ops
def ptr (b : Nat) : Value := .pointer (some ⟨b, 0, none⟩)
def layL (bl : Nat → Nat) : Nat → List Tmp → Act → Act
  | _, [], a => a
  | k, d :: r, a => layL bl (k + 1) r (a.put (some d) (ptr (bl k)))

section
variable {P : Program} {ops : Array Oper} {Q : Exit → Act → World → Prop}

theorem exec_agree {o : Oper} (hs : ∀ cs b, o.op ≠ .select cs b) {a a' : Act} (h : ∀ t ∈ o.looksAt ops, a.tmps[t]? = a'.tmps[t]?) : execOp a.eval o = execOp a'.eval o :=
  execOp_congr o hs fun x hx => by
    cases x with
    | tmp t =>
      have := h t (List.mem_append_left _ (List.mem_filterMap.2 ⟨.tmp t, by simpa using hx, rfl⟩))
      simp only [Act.eval, Array.getD_eq_getD_getElem?, this]
    | const v => rfl
    | global g => rfl
    | func f => rfl

theorem want_agree {o : Oper} {a a' : Act} (h : ∀ t ∈ o.looksAt ops, a.tmps[t]? = a'.tmps[t]?) : Region.wanted o (yielded ops a.tmps) = Region.wanted o (yielded ops a'.tmps) := by
  unfold Region.wanted
  cases hg : o.guard with
  | none => rfl
  | some gw =>
    obtain ⟨g, want⟩ := gw
    have hy : yielded ops a.tmps g = yielded ops a'.tmps g := by
      unfold yielded
      cases ht : (ops[g]?).bind (·.dst) with
      | none => rfl
      | some t =>
        have := h t (by simp [Oper.looksAt, hg, ht])
        simp [this]
    simp only [hy]

theorem put_at (a : Act) (d : Tmp) (v : Value) : (a.put (some d) v).tmps[d]? = if d < a.tmps.size then some v else none := by
  simp [Act.put, Array.getElem?_setIfInBounds]
theorem put_ne (a : Act) {d t : Tmp} (v : Value) (h : d ≠ t) : (a.put (some d) v).tmps[t]? = a.tmps[t]? := by
  simp [Act.put, Array.getElem?_setIfInBounds_ne h]
theorem put_size (a : Act) (d : Option Tmp) (v : Value) : (a.put d v).tmps.size = a.tmps.size := by
  cases d <;> simp [Act.put]
theorem put_defers (a : Act) (d : Option Tmp) (v : Value) : (a.put d v).defers = a.defers := by
  cases d <;> rfl

def Fix (P : Program) (ops : Array Oper) (C : World → Prop) (a1 : Act) (o : Oper) (d : Tmp) : Prop :=
  (Region.wanted o (yielded ops a1.tmps) = true ∧ ∃ v, (∀ w, C w → o.quietAt P a1 C w v) ∧ a1.tmps[d]? = if d < a1.tmps.size then some v else none) ∨
  (Region.wanted o (yielded ops a1.tmps) = false ∧ a1.tmps[d]? = if d < a1.tmps.size then some undef else none)

theorem quietAt_agree {C : World → Prop} {o : Oper} (hs : ∀ cs b, o.op ≠ .select cs b) {a a' : Act} (h : ∀ t ∈ o.looksAt ops, a.tmps[t]? = a'.tmps[t]?) {w : World} {v : Value} (hq : o.quietAt P a C w v) : o.quietAt P a' C w v := by
  unfold Oper.quietAt at *
  rwa [← exec_agree hs h]

theorem fix_of_walk {C : World → Prop} {a1 : Act} (hsel : ∀ (j : Nat) (o : Oper) cs b, ops[j]? = some o → o.op ≠ .select cs b) : ∀ (l : List Oper) (k : Nat) (a : Act),
    (∀ j, l[j]? = none ∨ (l[j]? = ops[k + j]? ∧ k + j < ops.size)) →
    (∀ j, j < l.length → ∃ d, dsl ops (k + j) = some d) →
    (∀ i j, j < i → i < k + l.length → dsl ops j ≠ dsl ops i) →
    (∀ i o, k ≤ i → i < k + l.length → ops[i]? = some o → ∀ t ∈ o.looksAt ops, ∀ j, i ≤ j → j < k + l.length → dsl ops j ≠ some t) →
    wpQuiet P ops C (fun a' => a' = a1) l a →
    a1.tmps.size = a.tmps.size ∧ a1.defers = a.defers ∧ (∀ t, (∀ j, j < l.length → dsl ops (k + j) ≠ some t) → a1.tmps[t]? = a.tmps[t]?) ∧
      ∀ i o d, k ≤ i → i < k + l.length → ops[i]? = some o → dsl ops i = some d → Fix P ops C a1 o d := by
  intro l
  induction l with
  | nil =>
    intro k a _ _ _ _ h
    have h : a = a1 := h
    subst h
    exact ⟨rfl, rfl, fun _ _ => rfl, fun i _ _ h1 h2 => by simp at h2; omega⟩
  | cons o l ih =>
    intro k a hl hd hdist hlook h
    have ho : ops[k]? = some o := by
      rcases hl 0 with h0 | ⟨h0, _⟩
      · simp at h0
      · simpa using h0.symm
    obtain ⟨d, hdk⟩ := hd 0 (by simp)
    simp only [Nat.add_zero] at hdk
    have hod : o.dst = some d := by simpa [dsl, ho] using hdk
    have hl' : ∀ j, l[j]? = none ∨ (l[j]? = ops[k + 1 + j]? ∧ k + 1 + j < ops.size) := fun j => by
      have := hl (j + 1)
      simpa [Nat.add_assoc, Nat.add_comm 1 j] using this
    have hd' : ∀ j, j < l.length → ∃ d, dsl ops (k + 1 + j) = some d := fun j hj => by
      have := hd (j + 1) (by simp; omega)
      simpa [Nat.add_assoc, Nat.add_comm 1 j] using this
    have hdist' : ∀ i j, j < i → i < k + 1 + l.length → dsl ops j ≠ dsl ops i := fun i j h1 h2 => hdist i j h1 (by simp; omega)
    have hlook' : ∀ i o, k + 1 ≤ i → i < k + 1 + l.length → ops[i]? = some o → ∀ t ∈ o.looksAt ops, ∀ j, i ≤ j → j < k + 1 + l.length → dsl ops j ≠ some t :=
      fun i o h1 h2 h3 t ht j h4 h5 => hlook i o (by omega) (by simp; omega) h3 t ht j h4 (by simp; omega)
    have main : ∀ v, wpQuiet P ops C (fun a' => a' = a1) l (a.put o.dst v) → (a1.tmps.size = a.tmps.size ∧ a1.defers = a.defers ∧ (∀ t, (∀ j, j < (o :: l).length → dsl ops (k + j) ≠ some t) → a1.tmps[t]? = a.tmps[t]?) ∧
        (∀ t ∈ o.looksAt ops, a.tmps[t]? = a1.tmps[t]?) ∧ (a1.tmps[d]? = if d < a1.tmps.size then some v else none) ∧
        ∀ i o d, k + 1 ≤ i → i < k + 1 + l.length → ops[i]? = some o → dsl ops i = some d → Fix P ops C a1 o d) := by
      intro v hw
      obtain ⟨i1, i2, i3, i4⟩ := ih (k + 1) (a.put o.dst v) hl' hd' hdist' hlook' hw
      rw [hod] at i1 i2 i3
      rw [put_size] at i1
      rw [put_defers] at i2
      have e3 : ∀ t, (∀ j, j < (o :: l).length → dsl ops (k + j) ≠ some t) → a1.tmps[t]? = a.tmps[t]? := fun t ht => by
        rw [i3 t (fun j hj => by have := ht (j + 1) (by simp; omega); simpa [Nat.add_assoc, Nat.add_comm 1 j] using this)]
        exact put_ne a v (fun e => ht 0 (by simp) (by simp [hdk, e]))
      refine ⟨i1, i2, e3, fun t ht => (e3 t fun j hj => hlook k o (Nat.le_refl _) (by simp) ho t ht (k + j) (by omega) (by omega)).symm, ?_, i4⟩
      rw [i3 d (fun j hj e => hdist (k + 1 + j) k (by omega) (by simp; omega) (by rw [hdk, e])), put_at, i1]
    have step : ∀ i o' d', k ≤ i → i < k + (o :: l).length → ops[i]? = some o' → dsl ops i = some d' → (Fix P ops C a1 o d) → (∀ i o d, k + 1 ≤ i → i < k + 1 + l.length → ops[i]? = some o → dsl ops i = some d → Fix P ops C a1 o d) → Fix P ops C a1 o' d' := by
      intro i o' d' h1 h2 h3 h4 hF hR
      by_cases e : i = k
      · subst e
        rw [ho] at h3
        rw [hdk] at h4
        cases h3
        cases h4
        exact hF
      · exact hR i o' d' (by omega) (by simp at h2; omega) h3 h4
    unfold wpQuiet at h
    by_cases hw : Region.wanted o (yielded ops a.tmps) = true
    · rw [if_pos hw] at h
      obtain ⟨v, hv, hn⟩ := h
      obtain ⟨m1, m2, m3, m4, m5, m6⟩ := main v hn
      refine ⟨m1, m2, m3, fun i o' d' h1 h2 h3 h4 => step i o' d' h1 h2 h3 h4 (.inl ⟨?_, v, fun w hC => quietAt_agree (hsel k o · · ho) m4 (hv w hC), m5⟩) m6⟩
      rw [← want_agree m4]; exact hw
    · rw [if_neg hw] at h
      obtain ⟨m1, m2, m3, m4, m5, m6⟩ := main undef h
      refine ⟨m1, m2, m3, fun i o' d' h1 h2 h3 h4 => step i o' d' h1 h2 h3 h4 (.inr ⟨?_, m5⟩) m6⟩
      rw [← want_agree m4]; simpa using hw

end
end Go.Proofs.YtapachlhdgehjaaGreatDoor

/-
  The law itself: whatever order is drawn, the frame at the end is the walk's, with the new variables' addresses in their slots.
-/
namespace Go.Proofs.YtapachlhdgehjaaGreatDoor
open Go.RowKit

section
variable {P : Program} {ops : Array Oper} {Q : Exit → Act → World → Prop}

theorem layL_size (bl : Nat → Nat) : ∀ (l : List Tmp) (k : Nat) (a : Act), (layL bl k l a).tmps.size = a.tmps.size
  | [], _, _ => rfl
  | d :: l, k, a => by show (layL bl (k + 1) l (a.put (some d) (ptr (bl k)))).tmps.size = _; rw [layL_size bl l, put_size]
theorem layL_defers (bl : Nat → Nat) : ∀ (l : List Tmp) (k : Nat) (a : Act), (layL bl k l a).defers = a.defers
  | [], _, _ => rfl
  | d :: l, k, a => by show (layL bl (k + 1) l (a.put (some d) (ptr (bl k)))).defers = _; rw [layL_defers bl l, put_defers]
theorem layL_ne (bl : Nat → Nat) : ∀ (l : List Tmp) (k : Nat) (a : Act) (t : Tmp), (∀ j : Nat, l[j]? ≠ some t) → (layL bl k l a).tmps[t]? = a.tmps[t]?
  | [], _, _, _, _ => rfl
  | d :: l, k, a, t, h => by
    show (layL bl (k + 1) l (a.put (some d) (ptr (bl k)))).tmps[t]? = _
    rw [layL_ne bl l (k + 1) _ t (fun j => by simpa using h (j + 1)), put_ne a _ (fun e => h 0 (by simp [e]))]
theorem layL_at (bl : Nat → Nat) : ∀ (l : List Tmp) (k : Nat) (a : Act) (t : Tmp) (j : Nat), l[j]? = some t → (∀ i : Nat, i ≠ j → l[i]? ≠ some t) → (layL bl k l a).tmps[t]? = if t < a.tmps.size then some (ptr (bl (k + j))) else none
  | [], _, _, _, _, h, _ => by simp at h
  | d :: l, k, a, t, 0, h, hu => by
    show (layL bl (k + 1) l (a.put (some d) (ptr (bl k)))).tmps[t]? = _
    have e : d = t := by simpa using h
    subst e
    rw [layL_ne bl l (k + 1) _ d (fun i => by simpa using hu (i + 1) (by omega)), put_at]; rfl
  | d :: l, k, a, t, j + 1, h, hu => by
    show (layL bl (k + 1) l (a.put (some d) (ptr (bl k)))).tmps[t]? = _
    rw [layL_at bl l (k + 1) _ t j (by simpa using h) (fun i hi => by simpa using hu (i + 1) (by omega)), put_size, show k + 1 + j = k + (j + 1) by omega]

structure PInv (ops : Array Oper) (W : World) (a0 a1 : Act) (als : Nat → Obj) (nq na : Nat) (bl : Nat → Nat) (l : Array Bool) (a : Act) (w : World) : Prop where
  size : l.size = ops.size
  late : ∀ k, nq + na ≤ k → l.getD k false = false
  down : ∀ i, l.getD i false = true → ∀ p ∈ preds ops i, l.getD p false = true
  tsize : a.tmps.size = a0.tmps.size
  defers : a.defers = a0.defers
  free : ∀ t, (∀ i, i < nq + na → l.getD i false = true → dsl ops i ≠ some t) → a.tmps[t]? = a0.tmps[t]?
  quiet : ∀ i d, i < nq → l.getD i false = true → dsl ops i = some d → a.tmps[d]? = a1.tmps[d]?
  below : Below W.heap.size W w
  lo : ∀ i, nq ≤ i → i < nq + na → l.getD i false = true → W.heap.size ≤ bl i ∧ w.heap[bl i]? = some (als i)
  slot : ∀ i d, nq ≤ i → i < nq + na → l.getD i false = true → dsl ops i = some d → a.tmps[d]? = if d < a0.tmps.size then some (ptr (bl i)) else none
  inj : ∀ i j, nq ≤ i → i < nq + na → nq ≤ j → j < nq + na → l.getD i false = true → l.getD j false = true → i ≠ j → bl i ≠ bl j

theorem phase_spec {nq na : Nat} (h : phaseB ops nq na = true) :
    (∀ i, i < nq + na → (∃ d, dsl ops i = some d) ∧ (∀ j, j < i → dsl ops j ≠ dsl ops i) ∧ ∀ p ∈ preds ops i, p < i) ∧
    (∀ i, i < nq → ∃ o, ops[i]? = some o ∧ ∀ t ∈ o.looksAt ops, ∀ j, j < nq + na → dsl ops j = some t → j < i ∧ j < nq ∧ j ∈ preds ops i) ∧
    (∀ k, nq + na ≤ k → k < ops.size → ∀ i, i < nq + na → i ∈ preds ops k ∨ ∃ j ∈ preds ops k, i ∈ preds ops j) ∧
    nq + na ≤ ops.size ∧ Region.noSelect ops = true := by
  unfold phaseB at h
  simp only [Bool.and_eq_true, List.all_eq_true, List.mem_range, decide_eq_true_eq] at h
  obtain ⟨⟨⟨⟨h1, h2⟩, h3⟩, h4⟩, h5⟩ := h
  refine ⟨fun i hi => ?_, fun i hi => ?_, fun k hk1 hk2 i hi => ?_, h4, h5⟩
  · obtain ⟨⟨e1, e2⟩, e3⟩ := h1 i hi
    exact ⟨Option.isSome_iff_exists.1 e1, fun j hj => by simpa using e2 j hj, e3⟩
  · have := h2 i hi
    cases ho : ops[i]? with
    | none => rw [ho] at this; simp at this
    | some o =>
      rw [ho] at this
      simp only [List.all_eq_true, List.mem_range] at this
      refine ⟨o, rfl, fun t ht j hj e => ?_⟩
      have := this t ht j hj
      simp [e] at this
      exact ⟨this.1, this.2.1, this.2.2⟩
  · have hm : k ∈ (List.range ops.size).drop (nq + na) := by
      rw [List.mem_drop_iff_getElem]
      refine ⟨k - (nq + na), by simp; omega, by simp; omega⟩
    have := h3 k hm i hi
    simpa using this

theorem getD_set (l : Array Bool) (i j : Nat) (hi : i < l.size) : (l.setIfInBounds i true).getD j false = if i = j then true else l.getD j false := by
  by_cases e : i = j
  · subst e
    simp [Array.getD_eq_getD_getElem?, hi]
  · simp [e, Array.getD_eq_getD_getElem?, Array.getElem?_setIfInBounds_ne e]

def bsOf (als : Nat → Obj) (nq na : Nat) (bl : Nat → Nat) (l : Array Bool) : List (Nat × Obj) :=
  ((List.range (nq + na)).filter fun i => decide (nq ≤ i) && l.getD i false).map fun i => (bl i, als i)
theorem mem_bsOf {als : Nat → Obj} {nq na : Nat} {bl : Nat → Nat} {l : Array Bool} {p : Nat × Obj} : p ∈ bsOf als nq na bl l ↔ ∃ i, nq ≤ i ∧ i < nq + na ∧ l.getD i false = true ∧ p = (bl i, als i) := by
  unfold bsOf
  simp only [List.mem_map, List.mem_filter, List.mem_range, Bool.and_eq_true, decide_eq_true_eq]
  constructor
  · rintro ⟨i, ⟨h1, h2, h3⟩, rfl⟩
    exact ⟨i, h2, h1, h3, rfl⟩
  · rintro ⟨i, h1, h2, h3, rfl⟩
    exact ⟨i, ⟨h2, h1, h3⟩, rfl⟩

section steps
variable {W : World} {a0 a1 : Act} {als : Nat → Obj} {nq na : Nat} {bl : Nat → Nat} {l : Array Bool} {a : Act} {w : World}

theorem PInv.stepQuiet (hB : phaseB ops nq na = true) (I : PInv ops W a0 a1 als nq na bl l a w) {i : Nat} (hi : i < nq) (hr : i ∈ Region.ready .any ops l)
    (out : ∀ t, (∀ j, j < nq → dsl ops j ≠ some t) → a1.tmps[t]? = a0.tmps[t]?) (hz : a1.tmps.size = a0.tmps.size)
    (hF : ∀ bs, Nonempty (Gb W bs) → ∀ o d, ops[i]? = some o → dsl ops i = some d → Fix P ops (fun w' => ∃ t : Gb W bs, w' = t.wd) a1 o d) :
    wpOp P ops Q i (fun a' w' => PInv ops W a0 a1 als nq na bl (l.setIfInBounds i true) a' w') a w := by
  obtain ⟨s1, s2, s3, s4, s5⟩ := phase_spec hB
  obtain ⟨o, ho, hlk⟩ := s2 i hi
  obtain ⟨⟨d, hd⟩, hdist, _⟩ := s1 i (by omega)
  obtain ⟨hnl, o', ho', hpre⟩ := mem_ready.1 hr
  rw [ho] at ho'
  cases ho'
  have hod : o.dst = some d := by simpa [dsl, ho] using hd
  have hpr : ∀ p ∈ preds ops i, l.getD p false = true := by
    intro p hp
    unfold preds at hp
    rw [ho] at hp
    simp only [List.mem_map, List.mem_filter] at hp
    obtain ⟨e, ⟨he, hb⟩, rfl⟩ := hp
    exact hpre e (by simpa using he) hb
  have hil : i < l.size := by rw [I.size]; omega
  have hsel := Region.noSelect_spec s5
  have hag : ∀ t ∈ o.looksAt ops, a1.tmps[t]? = a.tmps[t]? := by
    intro t ht
    by_cases hx : ∃ j, j < nq + na ∧ dsl ops j = some t
    · obtain ⟨j, hj, hjt⟩ := hx
      obtain ⟨_, h2, h3⟩ := hlk t ht j hj hjt
      exact (I.quiet j t h2 (hpr j h3) hjt).symm
    · rw [I.free t (fun j hj _ e => hx ⟨j, hj, e⟩), out t (fun j hj e => hx ⟨j, by omega, e⟩)]
  have next : ∀ v w', (∃ t : Gb W (bsOf als nq na bl l), w' = t.wd) → (a1.tmps[d]? = if d < a1.tmps.size then some v else none) → PInv ops W a0 a1 als nq na bl (l.setIfInBounds i true) (a.put o.dst v) w' := by
    rintro v w' ⟨t, rfl⟩ hv
    have hput : ∀ t, t ≠ d → (a.put o.dst v).tmps[t]? = a.tmps[t]? := fun t ht => by rw [hod]; exact put_ne a v (Ne.symm ht)
    refine ⟨by simp [I.size], fun k hk => ?_, fun j hj p hp => ?_, by rw [put_size]; exact I.tsize, by rw [put_defers]; exact I.defers, fun t ht => ?_, fun j t hj hl ht => ?_, t.below, fun j h1 h2 hl => ?_, fun j t h1 h2 hl ht => ?_, fun j k h1 h2 h3 h4 hl hk hne => ?_⟩
    · rw [getD_set l i k hil, if_neg (by omega)]; exact I.late k hk
    · rw [getD_set l i p hil]
      rw [getD_set l i j hil] at hj
      by_cases e : i = j
      · subst e
        rw [hpr p hp]; simp
      · rw [if_neg e] at hj
        rw [I.down j hj p hp]; simp
    · have hne : t ≠ d := fun e => ht i (by omega) (by rw [getD_set l i i hil, if_pos rfl]) (by rw [hd, e])
      rw [hput t hne]
      exact I.free t fun j hj hl => ht j hj (by rw [getD_set l i j hil, hl]; simp)
    · rw [getD_set l i j hil] at hl
      by_cases e : i = j
      · subst e
        rw [hd] at ht
        cases ht
        rw [hod, put_at, hv, I.tsize, hz]
      · rw [if_neg e] at hl
        have hne : t ≠ d := fun e' => by
          subst e'
          rcases Nat.lt_or_gt_of_ne e with h | h
          · exact (s1 j (by omega)).2.1 i h (by rw [hd, ht])
          · exact hdist j h (by rw [hd, ht])
        rw [hput t hne]
        exact I.quiet j t hj hl ht
    · rw [getD_set l i j hil, if_neg (by omega)] at hl
      exact ⟨(I.lo j h1 h2 hl).1, t.held _ (mem_bsOf.2 ⟨j, h1, h2, hl, rfl⟩)⟩
    · rw [getD_set l i j hil, if_neg (by omega)] at hl
      have hne : t ≠ d := fun e' => by
        subst e'
        exact (s1 j (by omega)).2.1 i (by omega) (by rw [hd, ht])
      rw [hput t hne]
      exact I.slot j t h1 h2 hl ht
    · rw [getD_set l i j hil, if_neg (by omega)] at hl
      rw [getD_set l i k hil, if_neg (by omega)] at hk
      exact I.inj j k h1 h2 h3 h4 hl hk hne
  have hCw : ∃ t : Gb W (bsOf als nq na bl l), w = t.wd := ⟨⟨w, I.below, fun p hp => by
    obtain ⟨j, h1, h2, hl, rfl⟩ := mem_bsOf.1 hp
    exact (I.lo j h1 h2 hl).2⟩, rfl⟩
  have hFx := hF (bsOf als nq na bl l) (by obtain ⟨t, _⟩ := hCw; exact ⟨t⟩) o d ho hd
  unfold wpOp
  rw [ho]
  show if Region.wanted o (yielded ops a.tmps) = true then _ else _
  rw [← want_agree hag]
  rcases hFx with ⟨hw, v, hv, hd1⟩ | ⟨hw, hd1⟩
  · rw [if_pos hw]
    refine .inl (Oper.wp_of_quiet (C := fun w' => ∃ t : Gb W (bsOf als nq na bl l), w' = t.wd) (K := fun a' => a' = a.put o.dst v) hCw (fun a' w' hw' e => ?_) ⟨v, fun w' hw' => quietAt_agree (hsel i o · · ho) hag (hv w' hw'), rfl⟩)
    subst e
    exact next v w' hw' hd1
  · rw [if_neg (by rw [hw]; simp)]
    exact next undef w hCw hd1

theorem PInv.stepAlloc (hB : phaseB ops nq na = true) (I : PInv ops W a0 a1 als nq na bl l a w) {i : Nat} (hi : nq ≤ i) (hi' : i < nq + na) (hr : i ∈ Region.ready .any ops l)
    {o : Oper} (ho : ops[i]? = some o) (hg : o.guard = none) (hrun : (execOp a.eval o).run P w = .ok (.value (ptr w.heap.size)) (w.alloc (als i))) :
    wpOp P ops Q i (fun a' w' => ∃ bl, PInv ops W a0 a1 als nq na bl (l.setIfInBounds i true) a' w') a w := by
  obtain ⟨s1, s2, s3, s4, s5⟩ := phase_spec hB
  obtain ⟨⟨d, hd⟩, hdist, _⟩ := s1 i (by omega)
  obtain ⟨hnl, o', ho', hpre⟩ := mem_ready.1 hr
  rw [ho] at ho'
  cases ho'
  have hod : o.dst = some d := by simpa [dsl, ho] using hd
  have hpr : ∀ p ∈ preds ops i, l.getD p false = true := by
    intro p hp
    unfold preds at hp
    rw [ho] at hp
    simp only [List.mem_map, List.mem_filter] at hp
    obtain ⟨e, ⟨he, hb⟩, rfl⟩ := hp
    exact hpre e (by simpa using he) hb
  have hil : i < l.size := by rw [I.size]; omega
  have hni : l.getD i false = false := by
    have := hnl
    simp [Array.getD_eq_getD_getElem?, hil] at this ⊢
    exact this
  unfold wpOp
  rw [ho]
  show if Region.wanted o (yielded ops a.tmps) = true then _ else _
  rw [if_pos (by simp [Region.wanted, hg])]
  refine .inl ?_
  unfold Oper.wp
  rw [hrun, Oper.upon_value]
  have hput : ∀ t, t ≠ d → (a.put o.dst (ptr w.heap.size)).tmps[t]? = a.tmps[t]? := fun t ht => by rw [hod]; exact put_ne a _ (Ne.symm ht)
  have hother : ∀ j t, j < nq + na → j ≠ i → dsl ops j = some t → t ≠ d := fun j t hj hne ht e => by
    subst e
    rcases Nat.lt_or_gt_of_ne hne with h | h
    · exact hdist j h (by rw [hd, ht])
    · exact (s1 j hj).2.1 i h (by rw [hd, ht])
  have lt_of : ∀ {b : Nat} {ob : Obj}, w.heap[b]? = some ob → b < w.heap.size := fun h => (Array.getElem?_eq_some_iff.1 h).1
  refine ⟨fun j => if j = i then w.heap.size else bl j, by simp [I.size], fun k hk => ?_, fun j hj p hp => ?_, by rw [put_size]; exact I.tsize, by rw [put_defers]; exact I.defers, fun t ht => ?_, fun j t hj hl ht => ?_, I.below.alloc I.below.size _, fun j h1 h2 hl => ?_, fun j t h1 h2 hl ht => ?_, fun j k h1 h2 h3 h4 hl hk hne => ?_⟩
  · rw [getD_set l i k hil, if_neg (by omega)]; exact I.late k hk
  · rw [getD_set l i p hil]
    rw [getD_set l i j hil] at hj
    by_cases e : i = j
    · subst e
      rw [hpr p hp]; simp
    · rw [if_neg e] at hj
      rw [I.down j hj p hp]; simp
  · have hne : t ≠ d := fun e => ht i (by omega) (by rw [getD_set l i i hil, if_pos rfl]) (by rw [hd, e])
    rw [hput t hne]
    exact I.free t fun j hj hl => ht j hj (by rw [getD_set l i j hil, hl]; simp)
  · rw [getD_set l i j hil, if_neg (by omega)] at hl
    rw [hput t (hother j t (by omega) (by omega) ht)]
    exact I.quiet j t hj hl ht
  · rw [getD_set l i j hil] at hl
    by_cases e : j = i
    · subst e
      simp only [if_true]
      exact ⟨I.below.size, by show (w.heap.push (als j))[w.heap.size]? = _; simp⟩
    · rw [if_neg (Ne.symm e)] at hl
      simp only [e, if_false]
      obtain ⟨k1, k2⟩ := I.lo j h1 h2 hl
      exact ⟨k1, by rw [Below.heap_alloc _ _ _ (lt_of k2)]; exact k2⟩
  · rw [getD_set l i j hil] at hl
    by_cases e : j = i
    · subst e
      rw [hd] at ht
      cases ht
      simp only [if_true]
      rw [hod, put_at, I.tsize]
    · rw [if_neg (Ne.symm e)] at hl
      simp only [e, if_false]
      rw [hput t (hother j t h2 e ht)]
      exact I.slot j t h1 h2 hl ht
  · rw [getD_set l i j hil] at hl
    rw [getD_set l i k hil] at hk
    by_cases e : j = i
    · subst e
      have e' : k ≠ j := Ne.symm hne
      rw [if_neg (Ne.symm e')] at hk
      simp only [e', if_true, if_false]
      have := lt_of (I.lo k h3 h4 hk).2
      omega
    · rw [if_neg (Ne.symm e)] at hl
      by_cases e' : k = i
      · subst e'
        simp only [e, if_true, if_false]
        have := lt_of (I.lo j h1 h2 hl).2
        omega
      · rw [if_neg (Ne.symm e')] at hk
        simp only [e, e', if_false]
        exact I.inj j k h1 h2 h3 h4 hl hk hne

def left (n : Nat) (l : Array Bool) : Nat := ((List.range n).filter fun i => !l.getD i false).length
theorem left_set (n : Nat) (l : Array Bool) (i : Nat) (hi : i < n) (hl : i < l.size) (h : l.getD i false = false) : left n (l.setIfInBounds i true) + 1 = left n l := by
  unfold left
  have key : ∀ (xs : List Nat), xs.Nodup → i ∈ xs → (xs.filter fun j => !(l.setIfInBounds i true).getD j false).length + 1 = (xs.filter fun j => !l.getD j false).length := by
    intro xs
    induction xs with
    | nil => intro _ h; simp at h
    | cons x xs ih =>
      intro hn hm
      rw [List.nodup_cons] at hn
      by_cases e : x = i
      · subst e
        have hrest : (xs.filter fun j => !(l.setIfInBounds x true).getD j false) = xs.filter fun j => !l.getD j false := List.filter_congr fun j hj => by
          rw [getD_set l x j hl, if_neg (fun e => hn.1 (by rw [e]; exact hj))]
        rw [List.filter_cons, List.filter_cons, hrest, getD_set l x x hl, if_pos rfl, h]
        simp
      · have hm' : i ∈ xs := by
          rcases List.mem_cons.1 hm with h | h
          · exact absurd h.symm e
          · exact h
        have := ih hn.2 hm'
        rw [List.filter_cons, List.filter_cons, getD_set l i x hl, if_neg (Ne.symm e)]
        cases l.getD x false
        · simp only [Bool.not_false, if_true, List.length_cons]; omega
        · simpa using this
  exact key _ List.nodup_range (List.mem_range.2 hi)
theorem left_zero {n : Nat} {l : Array Bool} (h : left n l = 0) : ∀ i, i < n → l.getD i false = true := by
  intro i hi
  unfold left at h
  rw [List.length_eq_zero_iff, List.filter_eq_nil_iff] at h
  have := h i (List.mem_range.2 hi)
  simpa using this

theorem phase_any (hB : phaseB ops nq na = true) (out : ∀ t, (∀ j, j < nq → dsl ops j ≠ some t) → a1.tmps[t]? = a0.tmps[t]?) (hz : a1.tmps.size = a0.tmps.size) (hdf : a1.defers = a0.defers)
    (hF : ∀ i, i < nq → ∀ bs, Nonempty (Gb W bs) → ∀ o d, ops[i]? = some o → dsl ops i = some d → Fix P ops (fun w' => ∃ t : Gb W bs, w' = t.wd) a1 o d)
    (hal : ∀ i, nq ≤ i → i < nq + na → ∃ o, ops[i]? = some o ∧ o.guard = none ∧ ∀ (a : Act) (w : World), (execOp a.eval o).run P w = .ok (.value (ptr w.heap.size)) (w.alloc (als i)))
    (dl : List Tmp) (hdl : ∀ k, dl[k]? = if k < na then dsl ops (nq + k) else none)
    (hfin : ∀ (bl : Nat → Nat) (w : World), Below W.heap.size W w → (∀ i, nq ≤ i → i < nq + na → W.heap.size ≤ bl i ∧ w.heap[bl i]? = some (als i)) → (∀ i j, nq ≤ i → i < nq + na → nq ≤ j → j < nq + na → i ≠ j → bl i ≠ bl j) →
      wpAny P .any ops Q (ops.size - (nq + na)) ((Array.range ops.size).map fun k => decide (k < nq + na)) (layL bl nq dl a1) w) :
    ∀ (n : Nat) (bl : Nat → Nat) (l : Array Bool) (a : Act) (w : World), left (nq + na) l = n → PInv ops W a0 a1 als nq na bl l a w → wpAny P .any ops Q (n + (ops.size - (nq + na))) l a w := by
  obtain ⟨s1, s2, s3, s4, s5⟩ := phase_spec hB
  intro n
  induction n with
  | zero =>
    intro bl l a w hn I
    have hall := left_zero hn
    have hl : l = (Array.range ops.size).map fun k => decide (k < nq + na) := by
      refine Array.ext_getElem? fun k => ?_
      by_cases hk : k < ops.size
      · have hk' : k < l.size := by rw [I.size]; exact hk
        have e1 : l[k]? = some (l.getD k false) := by simp [Array.getD_eq_getD_getElem?, hk']
        rw [e1]
        by_cases h : k < nq + na
        · rw [hall k h]; simp [hk, h]
        · rw [I.late k (by omega)]; simp [hk, h]
      · have hk' : ¬ k < l.size := by rw [I.size]; exact hk
        simp [hk, hk']
    have ha : a = layL bl nq dl a1 := by
      have hs : a.tmps.size = (layL bl nq dl a1).tmps.size := by rw [layL_size, I.tsize, hz]
      have ht : a.tmps = (layL bl nq dl a1).tmps := by
        refine Array.ext_getElem? fun t => ?_
        by_cases hx : ∃ k, k < na ∧ dsl ops (nq + k) = some t
        · obtain ⟨k, hk, hkt⟩ := hx
          rw [layL_at bl dl nq a1 t k (by rw [hdl, if_pos hk, hkt]) (fun j hj e => by
            rw [hdl] at e
            by_cases h : j < na
            · rw [if_pos h] at e
              rcases Nat.lt_or_gt_of_ne hj with h' | h'
              · exact (s1 (nq + k) (by omega)).2.1 (nq + j) (by omega) (by rw [hkt, e])
              · exact (s1 (nq + j) (by omega)).2.1 (nq + k) (by omega) (by rw [hkt, e])
            · rw [if_neg h] at e; simp at e), hz]
          exact I.slot (nq + k) t (by omega) (by omega) (hall _ (by omega)) hkt
        · have hne : ∀ k : Nat, dl[k]? ≠ some t := fun k e => by
            rw [hdl] at e
            by_cases h : k < na
            · rw [if_pos h] at e; exact hx ⟨k, h, e⟩
            · rw [if_neg h] at e; simp at e
          rw [layL_ne bl dl nq a1 t hne]
          by_cases hy : ∃ i, i < nq ∧ dsl ops i = some t
          · obtain ⟨i, hi, hit⟩ := hy
            exact I.quiet i t hi (hall i (by omega)) hit
          · rw [out t (fun j hj e => hy ⟨j, hj, e⟩)]
            refine I.free t fun i hi _ e => ?_
            by_cases h : i < nq
            · exact hy ⟨i, h, e⟩
            · exact hx ⟨i - nq, by omega, by rw [show nq + (i - nq) = i by omega]; exact e⟩
      have hd : a.defers = (layL bl nq dl a1).defers := by rw [layL_defers, I.defers, hdf]
      cases a
      cases hL : layL bl nq dl a1
      rw [hL] at ht hd
      simp only at ht hd
      rw [ht, hd]
    rw [Nat.zero_add, hl, ha]
    exact hfin bl w I.below (fun i h1 h2 => I.lo i h1 h2 (hall i h2)) (fun i j h1 h2 h3 h4 => I.inj i j h1 h2 h3 h4 (hall i h2) (hall j h4))
  | succ n ih =>
    intro bl l a w hn I
    have hex : ∃ i, i < nq + na ∧ l.getD i false = false := by
      refine Classical.byContradiction fun h => ?_
      have : left (nq + na) l = 0 := by
        unfold left
        rw [List.length_eq_zero_iff, List.filter_eq_nil_iff]
        intro i hi
        cases e : l.getD i false
        · exact absurd ⟨i, List.mem_range.1 hi, e⟩ h
        · simp
      omega
    have first : ∀ i ∈ Region.ready .any ops l, i < nq + na ∧ l.getD i false = false := by
      intro i hi
      obtain ⟨hnl, o, ho, hpre⟩ := mem_ready.1 hi
      have his : i < ops.size := (Array.getElem?_eq_some_iff.1 ho).1
      have hil : i < l.size := by rw [I.size]; exact his
      have hni : l.getD i false = false := by
        have := hnl
        simp [Array.getD_eq_getD_getElem?, hil] at this ⊢
        exact this
      refine ⟨Classical.byContradiction fun hge => ?_, hni⟩
      obtain ⟨j, hj, hjl⟩ := hex
      have hpr : ∀ p ∈ preds ops i, l.getD p false = true := by
        intro p hp
        unfold preds at hp
        rw [ho] at hp
        simp only [List.mem_map, List.mem_filter] at hp
        obtain ⟨e, ⟨he, hb⟩, rfl⟩ := hp
        exact hpre e (by simpa using he) hb
      rcases s3 i (by omega) his j hj with h | ⟨k, hk, h⟩
      · rw [hpr j h] at hjl; simp at hjl
      · rw [I.down k (hpr k hk) j h] at hjl; simp at hjl
    rw [show n + 1 + (ops.size - (nq + na)) = n + (ops.size - (nq + na)) + 1 by omega]
    refine ⟨fun he => ?_, fun i hi => ?_⟩
    · exfalso
      have hmin : ∀ m, ∀ i, i ≤ m → i < nq + na → l.getD i false = false → False := by
        intro m
        induction m with
        | zero =>
          intro i him hi hil
          refine absurd (mem_ready (md := .any).2 ⟨?_, ?_⟩ : i ∈ Region.ready .any ops l) (by rw [he]; simp)
          · have : i < l.size := by rw [I.size]; omega
            simp [Array.getD_eq_getD_getElem?, this] at hil ⊢
            exact hil
          · refine ⟨ops[i]'(by omega), by simp, fun e hem hb => ?_⟩
            have : e.on ∈ preds ops i := by
              unfold preds
              rw [show ops[i]? = some (ops[i]'(by omega)) by simp]
              simp only [List.mem_map, List.mem_filter]
              exact ⟨e, ⟨by simpa using hem, hb⟩, rfl⟩
            have := (s1 i hi).2.2 _ this
            omega
        | succ m ihm =>
          intro i him hi hil
          refine absurd (mem_ready (md := .any).2 ⟨?_, ?_⟩ : i ∈ Region.ready .any ops l) (by rw [he]; simp)
          · have : i < l.size := by rw [I.size]; omega
            simp [Array.getD_eq_getD_getElem?, this] at hil ⊢
            exact hil
          · refine ⟨ops[i]'(by omega), by simp, fun e hem hb => ?_⟩
            have hp : e.on ∈ preds ops i := by
              unfold preds
              rw [show ops[i]? = some (ops[i]'(by omega)) by simp]
              simp only [List.mem_map, List.mem_filter]
              exact ⟨e, ⟨by simpa using hem, hb⟩, rfl⟩
            have hlt := (s1 i hi).2.2 _ hp
            cases hv : l.getD e.on false
            · exact absurd (ihm e.on (by omega) (by omega) hv) (fun h => h)
            · rfl
      obtain ⟨i, hi, hil⟩ := hex
      exact hmin i i (Nat.le_refl _) hi hil
    · obtain ⟨hlt, hni⟩ := first i hi
      have hil : i < l.size := by rw [I.size]; omega
      have hleft : left (nq + na) (l.setIfInBounds i true) = n := by
        have := left_set (nq + na) l i hlt hil hni
        omega
      by_cases hq : i < nq
      · exact wpOp_mono (fun a' w' h => ih bl _ a' w' hleft h) (I.stepQuiet hB hq hi out hz (hF i hq))
      · obtain ⟨o, ho, hg, hrun⟩ := hal i (by omega) hlt
        exact wpOp_mono (fun a' w' ⟨bl', h⟩ => ih bl' _ a' w' hleft h) (I.stepAlloc hB (by omega) hlt hi ho hg (hrun a w))
end steps

theorem wp_region_phase {id : Nat} {a0 : Act} {W : World} (a1 : Act) (nq na : Nat) (als : Nat → Obj) (dl : List Tmp) (hm : P.follows .mixedOrders = true) (hB : phaseB ops nq na = true)
    (hdl : ∀ k, dl[k]? = if k < na then dsl ops (nq + k) else none)
    (hq : ∀ bs, Nonempty (Gb W bs) → wpQuiet P ops (fun w' => ∃ t : Gb W bs, w' = t.wd) (fun a' => a' = a1) (ops.toList.take nq) a0)
    (hal : ∀ i, nq ≤ i → i < nq + na → ∃ o, ops[i]? = some o ∧ o.guard = none ∧ ∀ (a : Act) (w : World), (execOp a.eval o).run P w = .ok (.value (ptr w.heap.size)) (w.alloc (als i)))
    (hfin : ∀ (bl : Nat → Nat) (w : World), Below W.heap.size W w → (∀ i, nq ≤ i → i < nq + na → W.heap.size ≤ bl i ∧ w.heap[bl i]? = some (als i)) → (∀ i j, nq ≤ i → i < nq + na → nq ≤ j → j < nq + na → i ≠ j → bl i ≠ bl j) →
      wpAny P .any ops Q (ops.size - (nq + na)) ((Array.range ops.size).map fun k => decide (k < nq + na)) (layL bl nq dl a1) w) :
    (Code.region id ops true).wp P Q a0 W := by
  obtain ⟨s1, s2, s3, s4, s5⟩ := phase_spec hB
  have hlen : (ops.toList.take nq).length = nq := by simp; omega
  have walk : ∀ bs, Nonempty (Gb W bs) → _ := fun bs hne => fix_of_walk (P := P) (ops := ops) (C := fun w' => ∃ t : Gb W bs, w' = t.wd) (a1 := a1) (Region.noSelect_spec s5) (ops.toList.take nq) 0 a0
    (fun j => by
      by_cases h : j < nq
      · refine .inr ⟨by simp [h], by omega⟩
      · exact .inl (by simp; omega))
    (fun j hj => by rw [Nat.zero_add]; exact (s1 j (by rw [hlen] at hj; omega)).1)
    (fun i j h1 h2 => (s1 i (by rw [hlen] at h2; omega)).2.1 j h1)
    (fun i o _ h2 h3 t ht j h4 h5 e => by
      rw [hlen] at h2 h5
      obtain ⟨o', ho', hl⟩ := s2 i (by omega)
      rw [h3] at ho'
      cases ho'
      have := (hl t ht j (by omega) e).1
      omega) (hq bs hne)
  obtain ⟨w1, w2, w3, _⟩ := walk [] ⟨⟨W, Below.refl _ _, fun p hp => by simp at hp⟩⟩
  refine wp_region_any hm ?_
  have hfa := phase_any (P := P) (Q := Q) (W := W) (a0 := a0) (a1 := a1) (als := als) hB (fun t ht => w3 t (fun j hj => by rw [Nat.zero_add]; exact ht j (by rw [hlen] at hj; omega))) w1 w2
    (fun i hi bs hne o d ho hd => (walk bs hne).2.2.2 i o d (Nat.zero_le _) (by rw [hlen]; omega) ho hd) hal dl hdl hfin (nq + na) (fun _ => 0) (Array.replicate ops.size false) a0 { W with drawn := W.drawn + 1 }
  have hf0 : ∀ k, (Array.replicate ops.size false).getD k false = false := fun k => by
    simp [Array.getD_eq_getD_getElem?, Array.getElem?_replicate]
    split <;> rfl
  have hl0 : left (nq + na) (Array.replicate ops.size false) = nq + na := by
    unfold left
    rw [List.filter_eq_self.2 (fun i _ => by rw [hf0]; rfl), List.length_range]
  have := hfa hl0 ⟨by simp, fun k _ => hf0 k, fun i h => by rw [hf0] at h; simp at h, rfl, rfl, fun _ _ => rfl, fun i d _ h => by rw [hf0] at h; simp at h, (Below.refl _ W).drew,
    fun i _ _ h => by rw [hf0] at h; simp at h, fun i d _ _ h => by rw [hf0] at h; simp at h, fun i j _ _ _ _ h => by rw [hf0] at h; simp at h⟩
  rwa [show nq + na + (ops.size - (nq + na)) = ops.size by omega] at this

theorem wpAny_one {fuel : Nat} {l : Array Bool} {a : Act} {w : World} (i : Nat) {o : Oper} (hr : Region.ready .any ops l = [i]) (ho : ops[i]? = some o)
    (h : ∀ K' : Act → World → Prop, (∀ a w, wpAny P .any ops Q fuel (l.setIfInBounds i true) a w → K' a w) → if Region.wanted o (yielded ops a.tmps) = true then Oper.wp P o a w K' Q else K' (a.put o.dst undef) w) :
    wpAny P .any ops Q (fuel + 1) l a w := by
  refine wpAny_all hr (by simp) fun j hj => ?_
  have : j = i := by simpa using hj
  subst this
  have hh := h (wpAny P .any ops Q fuel (l.setIfInBounds j true)) (fun _ _ h => h)
  unfold wpOp
  rw [ho]
  show if Region.wanted o (yielded ops a.tmps) = true then _ else _
  by_cases hw : Region.wanted o (yielded ops a.tmps) = true
  · rw [if_pos hw] at hh ⊢; exact .inl hh
  · rw [if_neg hw] at hh ⊢; exact hh

theorem wp_region_lit {id : Nat} {a0 : Act} {W : World} {l : List Oper} (nq na ns : Nat) (als : Nat → Obj) (dl : List Tmp) (hm : P.follows .mixedOrders = true) (hB : phaseB l.toArray nq na = true) (hns : l.length - (nq + na) = ns)
    (hdl : ∀ k, k < na → dl[k]? = dsl l.toArray (nq + k)) (hdn : dl.length = na)
    (hal : ∀ i, nq ≤ i → i < nq + na → ∃ o, l.toArray[i]? = some o ∧ o.guard = none ∧ ∀ (a : Act) (w : World), (execOp a.eval o).run P w = .ok (.value (ptr w.heap.size)) (w.alloc (als i)))
    (h : ∃ a1 : Act, (∀ bs, Nonempty (Gb W bs) → wpQuiet P l.toArray (fun w' => ∃ t : Gb W bs, w' = t.wd) (fun a' => a' = a1) (l.take nq) a0) ∧
      ∀ (bl : Nat → Nat) (w : World), Below W.heap.size W w → (∀ i, nq ≤ i → i < nq + na → W.heap.size ≤ bl i ∧ w.heap[bl i]? = some (als i)) → (∀ i j, nq ≤ i → i < nq + na → nq ≤ j → j < nq + na → i ≠ j → bl i ≠ bl j) →
        wpAny P .any l.toArray Q ns ((Array.range l.length).map fun k => decide (k < nq + na)) (layL bl nq dl a1) w) :
    (Code.region id l.toArray true).wp P Q a0 W := by
  obtain ⟨a1, hq, hfin⟩ := h
  refine wp_region_phase a1 nq na als dl hm hB (fun k => ?_) (by simpa using hq) hal (fun bl w h1 h2 h3 => ?_)
  · by_cases h : k < na
    · rw [if_pos h]; exact hdl k h
    · rw [if_neg h]; simp; omega
  · have := hfin bl w h1 h2 h3
    rw [← hns] at this
    simpa using this

theorem heap_cells {w : World} {b : Nat} {c : Array Value} {t : TypeId} (h : w.heap[b]? = some (.cells c t)) : (∀ o, w.cell? ⟨b, o, none⟩ = c[o]?) ∧ (∀ o, w.frozen? ⟨b, o, none⟩ = false) ∧ b < w.heap.size := by
  refine ⟨fun o => ?_, fun o => ?_, (Array.getElem?_eq_some_iff.1 h).1⟩
  · simp [World.cell?, h]
  · simp [World.frozen?, h]
theorem gb_call {f : FuncId} {args : Array Value} {W : World} {bs : List (Nat × Obj)} {v : Value} {t : Gb W bs}
    (h : Calls P f args t.wd fun e w' => e = .returned v ∧ Below t.wd.heap.size t.wd w') : Calls P f args t.wd fun e w'' => e = .returned v ∧ ∃ t' : Gb W bs, w'' = t'.wd :=
  h.mono fun _ w'' ⟨he, hb⟩ => ⟨he, ⟨⟨w'', t.below.trans (hb.mono t.below.size), fun p hp => by
    have hp' := t.held p hp
    rw [hb.block p.1 (Array.getElem?_eq_some_iff.1 hp').1]
    exact hp'⟩, rfl⟩⟩
theorem gb_same {f : FuncId} {args : Array Value} {W : World} {bs : List (Nat × Obj)} {v : Value} {t : Gb W bs}
    (h : Calls P f args t.wd fun e w' => e = .returned v ∧ w' = t.wd) : Calls P f args t.wd fun e w'' => e = .returned v ∧ ∃ t' : Gb W bs, w'' = t'.wd :=
  h.mono fun _ _ ⟨he, hw⟩ => ⟨he, ⟨t, hw⟩⟩

end
end Go.Proofs.YtapachlhdgehjaaGreatDoor
