/-
  The same inside of a fence: a region that draws its order, by what holds between its operations.
-/
import Derived.Test.YtcahdmfmcojaoaaGreatDoorK11
import Derived.OrdersIn
namespace Go.Proofs.YtcahdmfmcojaoaaGreatDoor
open Go.RowKit

section
variable {F : Fence} {n : Nat} {P : Program} {ops : Array Oper} {Q : Exit → Act → World → Prop}

theorem wpAnyIn_inv (I : (Nat → Bool) → Act → World → Prop) (acy : acyB ops = true)
    (step : ∀ b a w i o, I b a w → b i = false → ops[i]? = some o → (∀ p ∈ preds ops i, b p = true) → ∀ K' : Act → World → Prop, (∀ a' w', I (fun j => if j = i then true else b j) a' w' → K' a' w') → if Region.wanted o (yielded ops a.tmps) = true then Oper.wpIn F n P o a w K' Q else (∀ f, o.about P w a.eval = some f → F.fn f) ∧ K' (a.put o.dst undef) w)
    (fin : ∀ b a w, I b a w → (∀ i, i < ops.size → b i = true) → Q .normal a w) :
    ∀ (fuel : Nat) (l : Array Bool) (a : Act) (w : World), l.size = ops.size → I (fun j => l.getD j false) a w → left ops.size l ≤ fuel → wpAnyIn F n P .any ops Q fuel l a w := by
  have hac : ∀ i, i < ops.size → ∀ p ∈ preds ops i, p < i := by
    unfold acyB at acy
    simp only [Bool.and_eq_true, List.all_eq_true, List.mem_range, decide_eq_true_eq] at acy
    exact acy.1
  have hready : ∀ (l : Array Bool) (i : Nat), i ∈ Region.ready .any ops l → l.size = ops.size → i < ops.size ∧ l.getD i false = false ∧ ∃ o, ops[i]? = some o ∧ ∀ p ∈ preds ops i, l.getD p false = true := by
    intro l i hi hs
    obtain ⟨h1, o, ho, h2⟩ := mem_ready.1 hi
    have hlt : i < ops.size := (Array.getElem?_eq_some_iff.1 ho).1
    refine ⟨hlt, ?_, o, ho, fun p hp => ?_⟩
    · have : i < l.size := by rw [hs]; exact hlt
      simp [Array.getD_eq_getD_getElem?, this] at h1 ⊢
      exact h1
    · unfold preds at hp
      rw [ho] at hp
      simp only [List.mem_map, List.mem_filter] at hp
      obtain ⟨e, ⟨he, hb⟩, rfl⟩ := hp
      exact h2 e (by simpa using he) hb
  have hempty : ∀ (l : Array Bool), l.size = ops.size → Region.ready .any ops l = [] → ∀ i, i < ops.size → l.getD i false = true := by
    intro l hs he i
    induction i using Nat.strongRecOn with
    | ind i ih =>
      intro hi
      cases hv : l.getD i false with
      | true => rfl
      | false =>
        exfalso
        refine absurd (mem_ready (md := .any).2 ⟨?_, ?_⟩ : i ∈ Region.ready .any ops l) (by rw [he]; simp)
        · have : i < l.size := by rw [hs]; exact hi
          simp [Array.getD_eq_getD_getElem?, this] at hv ⊢
          exact hv
        · refine ⟨ops[i]'hi, by simp, fun e hem hb => ?_⟩
          have hp : e.on ∈ preds ops i := by
            unfold preds
            rw [show ops[i]? = some (ops[i]'hi) by simp]
            simp only [List.mem_map, List.mem_filter]
            exact ⟨e, ⟨by simpa using hem, hb⟩, rfl⟩
          have hlt := hac i hi _ hp
          exact ih e.on hlt (by omega)
  intro fuel
  induction fuel with
  | zero =>
    intro l a w hs hI hl
    have hall := left_zero (n := ops.size) (l := l) (by omega)
    refine ⟨?_, fin _ a w hI hall⟩
    cases hr : Region.ready .any ops l with
    | nil => rfl
    | cons i rs =>
      have hm : i ∈ Region.ready .any ops l := by rw [hr]; simp
      obtain ⟨h1, h2, _⟩ := hready l i hm hs
      rw [hall i h1] at h2
      cases h2
  | succ fuel ih =>
    intro l a w hs hI hl
    refine ⟨fun he => fin _ a w hI (hempty l hs he), fun i hi => ?_⟩
    obtain ⟨h1, h2, o, ho, h3⟩ := hready l i hi hs
    refine wpOpIn_step ho fun K2 hK2 => step _ a w i o hI h2 ho h3 _ fun a' w' hI' => hK2 _ _ ?_
    have hil : i < l.size := by rw [hs]; exact h1
    refine ih _ a' w' (by simp [hs]) ?_ ?_
    · have e : (fun j => (l.setIfInBounds i true).getD j false) = fun j => if j = i then true else l.getD j false := by
        funext j
        rw [getD_set l i j hil]
        by_cases c : i = j
        · rw [if_pos c, if_pos c.symm]
        · rw [if_neg c, if_neg (fun e => c e.symm)]
      rw [e]
      exact hI'
    · have := left_set ops.size l i h1 hil h2
      omega
theorem wpIn_region_inv {id : Nat} {a0 : Act} {W : World} {l : List Oper} (I : (Nat → Bool) → Act → World → Prop) (hm : P.follows .mixedOrders = true) (acy : acyB l.toArray = true) (h0 : I (fun _ => false) a0 W.drew)
    (step : ∀ b a w i o, I b a w → b i = false → l.toArray[i]? = some o → (∀ p ∈ preds l.toArray i, b p = true) → ∀ K' : Act → World → Prop, (∀ a' w', I (fun j => if j = i then true else b j) a' w' → K' a' w') → if Region.wanted o (yielded l.toArray a.tmps) = true then Oper.wpIn F n P o a w K' Q else (∀ f, o.about P w a.eval = some f → F.fn f) ∧ K' (a.put o.dst undef) w)
    (fin : ∀ b a w, I b a w → (∀ i, i < l.toArray.size → b i = true) → Q .normal a w) :
    (Code.region id l.toArray true).wpIn F n P Q a0 W := by
  refine wpIn_region_any hm ?_
  refine wpAnyIn_inv I acy step fin _ _ a0 _ (by simp) ?_ ?_
  · have e : (fun j => (Array.replicate l.toArray.size false).getD j false) = fun _ => false := by
      funext k
      simp [Array.getD_eq_getD_getElem?, Array.getElem?_replicate]
      split <;> rfl
    rw [e]
    exact h0
  · unfold left
    exact Nat.le_trans (List.length_filter_le _ _) (by simp)
end

end Go.Proofs.YtcahdmfmcojaoaaGreatDoor
