/-
  A law for regions that draw their order: first operations that only read or call what leaves old memory alone, and new variables; then stores. One walk of the text serves every order.
-/
import Derived.Deep.QuietTactic
import Derived.Below
namespace Go.Proofs.YtcahdmfmcojaoaaGreatDoor
open Go.RowKit

structure Gb (W : World) (bs : List (Nat × Obj)) where
  wd : World
  below : Below W.heap.size W wd
  held : ∀ p ∈ bs, wd.heap[p.1]? = some p.2

def preds (ops : Array Oper) (i : Nat) : List Nat :=
  match ops[i]? with
  | some o => (o.after.toList.filter fun e => Region.binds .any e).map (·.on)
  | none => []
def dsl (ops : Array Oper) (i : Nat) : Option Tmp := (ops[i]?).bind (·.dst)
def phaseB (ops : Array Oper) (nq na : Nat) : Bool :=
  ((List.range (nq + na)).all fun i => (dsl ops i).isSome && ((List.range i).all fun j => dsl ops j != dsl ops i) && (preds ops i).all fun p => decide (p < i)) &&
  ((List.range nq).all fun i => match ops[i]? with
    | none => false
    | some o => (o.looksAt ops).all fun t => (List.range (nq + na)).all fun j => dsl ops j != some t || (decide (j < i) && (decide (j < nq) && (preds ops i).contains j))) &&
  (((List.range ops.size).drop (nq + na)).all fun k => (List.range (nq + na)).all fun i => (preds ops k).contains i || (preds ops k).any fun j => (preds ops j).contains i) &&
  decide (nq + na ≤ ops.size) && Region.noSelect ops
def ptr (b : Nat) : Value := .pointer (some ⟨b, 0, none⟩)
def layL (bl : Nat → Nat) : Nat → List Tmp → Act → Act
  | _, [], a => a
  | k, d :: r, a => layL bl (k + 1) r (a.put (some d) (ptr (bl k)))

section
variable {P : Program} {ops : Array Oper} {Q : Exit → Act → World → Prop}

theorem exec_agree {o : Oper} (hs : ∀ cs b, o.op ≠ .select cs b) {a a' : Act} (h : ∀ t ∈ o.looksAt ops, a.tmps[t]? = a'.tmps[t]?) : execOp a.eval o = execOp a'.eval o :=
  execOp_congr o hs fun x hx => by
    cases x with
    | tmp t =>
      have := h t (List.mem_append_left _ (List.mem_filterMap.2 ⟨.tmp t, by simpa using hx, rfl⟩))
      simp only [Act.eval, Array.getD_eq_getD_getElem?, this]
    | const v => rfl
    | global g => rfl
    | func f => rfl

theorem want_agree {o : Oper} {a a' : Act} (h : ∀ t ∈ o.looksAt ops, a.tmps[t]? = a'.tmps[t]?) : Region.wanted o (yielded ops a.tmps) = Region.wanted o (yielded ops a'.tmps) := by
  unfold Region.wanted
  cases hg : o.guard with
  | none => rfl
  | some gw =>
    obtain ⟨g, want⟩ := gw
    have hy : yielded ops a.tmps g = yielded ops a'.tmps g := by
      unfold yielded
      cases ht : (ops[g]?).bind (·.dst) with
      | none => rfl
      | some t =>
        have := h t (by simp [Oper.looksAt, hg, ht])
        simp [this]
    simp only [hy]

theorem put_at (a : Act) (d : Tmp) (v : Value) : (a.put (some d) v).tmps[d]? = if d < a.tmps.size then some v else none := by
  simp [Act.put, Array.getElem?_setIfInBounds]
theorem put_ne (a : Act) {d t : Tmp} (v : Value) (h : d ≠ t) : (a.put (some d) v).tmps[t]? = a.tmps[t]? := by
  simp [Act.put, Array.getElem?_setIfInBounds_ne h]
theorem put_size (a : Act) (d : Option Tmp) (v : Value) : (a.put d v).tmps.size = a.tmps.size := by
  cases d <;> simp [Act.put]
theorem put_defers (a : Act) (d : Option Tmp) (v : Value) : (a.put d v).defers = a.defers := by
  cases d <;> rfl

def Fix (P : Program) (ops : Array Oper) (C : World → Prop) (a1 : Act) (o : Oper) (d : Tmp) : Prop :=
  (Region.wanted o (yielded ops a1.tmps) = true ∧ ∃ v, (∀ w, C w → o.quietAt P a1 C w v) ∧ a1.tmps[d]? = if d < a1.tmps.size then some v else none) ∨
  (Region.wanted o (yielded ops a1.tmps) = false ∧ a1.tmps[d]? = if d < a1.tmps.size then some undef else none)

theorem quietAt_agree {C : World → Prop} {o : Oper} (hs : ∀ cs b, o.op ≠ .select cs b) {a a' : Act} (h : ∀ t ∈ o.looksAt ops, a.tmps[t]? = a'.tmps[t]?) {w : World} {v : Value} (hq : o.quietAt P a C w v) : o.quietAt P a' C w v := by
  unfold Oper.quietAt at *
  rwa [← exec_agree hs h]

theorem fix_of_walk {C : World → Prop} {a1 : Act} (hsel : ∀ (j : Nat) (o : Oper) cs b, ops[j]? = some o → o.op ≠ .select cs b) : ∀ (l : List Oper) (k : Nat) (a : Act),
    (∀ j, l[j]? = none ∨ (l[j]? = ops[k + j]? ∧ k + j < ops.size)) →
    (∀ j, j < l.length → ∃ d, dsl ops (k + j) = some d) →
    (∀ i j, j < i → i < k + l.length → dsl ops j ≠ dsl ops i) →
    (∀ i o, k ≤ i → i < k + l.length → ops[i]? = some o → ∀ t ∈ o.looksAt ops, ∀ j, i ≤ j → j < k + l.length → dsl ops j ≠ some t) →
    wpQuiet P ops C (fun a' => a' = a1) l a →
    a1.tmps.size = a.tmps.size ∧ a1.defers = a.defers ∧ (∀ t, (∀ j, j < l.length → dsl ops (k + j) ≠ some t) → a1.tmps[t]? = a.tmps[t]?) ∧
      ∀ i o d, k ≤ i → i < k + l.length → ops[i]? = some o → dsl ops i = some d → Fix P ops C a1 o d := by
  intro l
  induction l with
  | nil =>
    intro k a _ _ _ _ h
    have h : a = a1 := h
    subst h
    exact ⟨rfl, rfl, fun _ _ => rfl, fun i _ _ h1 h2 => by simp at h2; omega⟩
  | cons o l ih =>
    intro k a hl hd hdist hlook h
    have ho : ops[k]? = some o := by
      rcases hl 0 with h0 | ⟨h0, _⟩
      · simp at h0
      · simpa using h0.symm
    obtain ⟨d, hdk⟩ := hd 0 (by simp)
    simp only [Nat.add_zero] at hdk
    have hod : o.dst = some d := by simpa [dsl, ho] using hdk
    have hl' : ∀ j, l[j]? = none ∨ (l[j]? = ops[k + 1 + j]? ∧ k + 1 + j < ops.size) := fun j => by
      have := hl (j + 1)
      simpa [Nat.add_assoc, Nat.add_comm 1 j] using this
    have hd' : ∀ j, j < l.length → ∃ d, dsl ops (k + 1 + j) = some d := fun j hj => by
      have := hd (j + 1) (by simp; omega)
      simpa [Nat.add_assoc, Nat.add_comm 1 j] using this
    have hdist' : ∀ i j, j < i → i < k + 1 + l.length → dsl ops j ≠ dsl ops i := fun i j h1 h2 => hdist i j h1 (by simp; omega)
    have hlook' : ∀ i o, k + 1 ≤ i → i < k + 1 + l.length → ops[i]? = some o → ∀ t ∈ o.looksAt ops, ∀ j, i ≤ j → j < k + 1 + l.length → dsl ops j ≠ some t :=
      fun i o h1 h2 h3 t ht j h4 h5 => hlook i o (by omega) (by simp; omega) h3 t ht j h4 (by simp; omega)
    have main : ∀ v, wpQuiet P ops C (fun a' => a' = a1) l (a.put o.dst v) → (a1.tmps.size = a.tmps.size ∧ a1.defers = a.defers ∧ (∀ t, (∀ j, j < (o :: l).length → dsl ops (k + j) ≠ some t) → a1.tmps[t]? = a.tmps[t]?) ∧
        (∀ t ∈ o.looksAt ops, a.tmps[t]? = a1.tmps[t]?) ∧ (a1.tmps[d]? = if d < a1.tmps.size then some v else none) ∧
        ∀ i o d, k + 1 ≤ i → i < k + 1 + l.length → ops[i]? = some o → dsl ops i = some d → Fix P ops C a1 o d) := by
      intro v hw
      obtain ⟨i1, i2, i3, i4⟩ := ih (k + 1) (a.put o.dst v) hl' hd' hdist' hlook' hw
      rw [hod] at i1 i2 i3
      rw [put_size] at i1
      rw [put_defers] at i2
      have e3 : ∀ t, (∀ j, j < (o :: l).length → dsl ops (k + j) ≠ some t) → a1.tmps[t]? = a.tmps[t]? := fun t ht => by
        rw [i3 t (fun j hj => by have := ht (j + 1) (by simp; omega); simpa [Nat.add_assoc, Nat.add_comm 1 j] using this)]
        exact put_ne a v (fun e => ht 0 (by simp) (by simp [hdk, e]))
      refine ⟨i1, i2, e3, fun t ht => (e3 t fun j hj => hlook k o (Nat.le_refl _) (by simp) ho t ht (k + j) (by omega) (by omega)).symm, ?_, i4⟩
      rw [i3 d (fun j hj e => hdist (k + 1 + j) k (by omega) (by simp; omega) (by rw [hdk, e])), put_at, i1]
    have step : ∀ i o' d', k ≤ i → i < k + (o :: l).length → ops[i]? = some o' → dsl ops i = some d' → (Fix P ops C a1 o d) → (∀ i o d, k + 1 ≤ i → i < k + 1 + l.length → ops[i]? = some o → dsl ops i = some d → Fix P ops C a1 o d) → Fix P ops C a1 o' d' := by
      intro i o' d' h1 h2 h3 h4 hF hR
      by_cases e : i = k
      · subst e
        rw [ho] at h3
        rw [hdk] at h4
        cases h3
        cases h4
        exact hF
      · exact hR i o' d' (by omega) (by simp at h2; omega) h3 h4
    unfold wpQuiet at h
    by_cases hw : Region.wanted o (yielded ops a.tmps) = true
    · rw [if_pos hw] at h
      obtain ⟨v, hv, hn⟩ := h
      obtain ⟨m1, m2, m3, m4, m5, m6⟩ := main v hn
      refine ⟨m1, m2, m3, fun i o' d' h1 h2 h3 h4 => step i o' d' h1 h2 h3 h4 (.inl ⟨?_, v, fun w hC => quietAt_agree (hsel k o · · ho) m4 (hv w hC), m5⟩) m6⟩
      rw [← want_agree m4]; exact hw
    · rw [if_neg hw] at h
      obtain ⟨m1, m2, m3, m4, m5, m6⟩ := main undef h
      refine ⟨m1, m2, m3, fun i o' d' h1 h2 h3 h4 => step i o' d' h1 h2 h3 h4 (.inr ⟨?_, m5⟩) m6⟩
      rw [← want_agree m4]; simpa using hw

end
end Go.Proofs.YtcahdmfmcojaoaaGreatDoor
