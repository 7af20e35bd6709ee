/-
  Texts of this claim, one behind the other: what each is about stands ahead of it.
-/
import Derived.Test.YtcahdmfmcojaoaaGreatDoorK17
import Derived.Test.YtcahdmfmcojaoaaGreatDoorK3
/-
  A list drawn on a screen, in plain words: stroke by stroke is place by place.
-/
namespace Go.Proofs.YtcahdmfmcojaoaaGreatDoor
open Go.RowKit

def drwS (a : Nat) (L : List Ce) (A : List (St × Rc)) : List Ce := L.mapIdx fun k c => drwC wrP overC (k % a : Nat) (k / a : Nat) c A
theorem drwS_len (a : Nat) (L : List Ce) (A : List (St × Rc)) : (drwS a L A).length = L.length := by simp [drwS]
theorem drwS_nil (a : Nat) (L : List Ce) : drwS a L [] = L := by
  apply List.ext_getElem (drwS_len _ _ _)
  intro k h1 h2
  simp [drwS, drwC]
def areZ (a b : Nat) (q : Rc) : Rc := zMe q ⟨0, 0, a, b⟩
def stpS (a b : Nat) (L : List Ce) (p : St × Rc) : List Ce :=
  if zEm (areZ a b p.2) = true then L else updQ L a (areZ a b p.2).x.toNat (areZ a b p.2).y.toNat (areZ a b p.2).w.toNat (areZ a b p.2).h.toNat (madK p.1 a)
theorem hasE_iff (r : Rc) (px py : Int) (h : zEm r = false) : zHa r px py = true ↔ r.x ≤ px ∧ px < r.x + r.w ∧ r.y ≤ py ∧ py < r.y + r.h := by
  unfold zHa hasB
  rw [show emptyB r.x r.y r.w r.h = false from h]
  simp
theorem hasE_em {r : Rc} {px py : Int} (h : zEm r = true) : zHa r px py = false := by
  unfold zHa hasB
  rw [show emptyB r.x r.y r.w r.h = true from h]
  rfl
theorem are_in {a b : Nat} {q : Rc} (h : zEm (areZ a b q) = false) : 0 ≤ (areZ a b q).x ∧ 0 < (areZ a b q).w ∧ (areZ a b q).x + (areZ a b q).w ≤ a ∧ 0 ≤ (areZ a b q).y ∧ 0 < (areZ a b q).h ∧ (areZ a b q).y + (areZ a b q).h ≤ b ∧ q.x ≤ (areZ a b q).x ∧ (areZ a b q).x + (areZ a b q).w ≤ q.x + q.w ∧ q.y ≤ (areZ a b q).y ∧ (areZ a b q).y + (areZ a b q).h ≤ q.y + q.h := by
  obtain ⟨-, e2, -, -, e5, -⟩ := (em_iff _).1 h
  unfold areZ zMe meetR at e2 e5 ⊢
  split at e2
  · exact absurd e2 (by decide)
  · next c =>
    rw [if_neg c] at e5
    unfold btw at e2 e5 ⊢
    split at e2
    · exact absurd e2 (by decide)
    · next d =>
      rw [if_neg d] at e5
      simp only [if_neg c, if_neg d]
      dsimp only at d e2 e5 ⊢
      omega
theorem are_has {a b : Nat} (hs : szB a b = true) (q : Rc) {k : Nat} (h : k < a * b) : zHa (areZ a b q) (k % a : Nat) (k / a : Nat) = zHa q (k % a : Nat) (k / a : Nat) := by
  have ha : 0 < a := by
    rcases Nat.eq_zero_or_pos a with e | e
    · rw [e, Nat.zero_mul] at h; omega
    · exact e
  have h1 := Nat.mod_lt k ha
  have h2 : k / a < b := Nat.div_lt_of_lt_mul h
  obtain ⟨s1, s2, s3, s4, -⟩ := szB_iff.1 hs
  unfold areZ
  generalize k % a = c at *
  generalize k / a = r at *
  have e : zHa ⟨0, 0, a, b⟩ (c : Nat) (r : Nat) = true := (hasE_iff _ _ _ ((em_iff _).2 (by simp only; omega))).2 (by simp only; omega)
  rw [has_meet, e, Bool.and_true]
theorem stp_map {a b : Nat} (hs : szB a b = true) {L : List Ce} (hL : L.length = a * b) (p : St × Rc) : stpS a b L p = L.mapIdx fun k c => if zHa p.2 (k % a : Nat) (k / a : Nat) = true then madK p.1 a k c else c := by
  unfold stpS
  cases h : zEm (areZ a b p.2)
  · rw [if_neg (by simp)]
    obtain ⟨r1, r2, r3, r4, r5, r6, -⟩ := are_in h
    apply List.ext_getElem (by rw [updQ_len, List.length_mapIdx])
    intro k h1 h2
    rw [updQ_len, hL] at h1
    simp only [updQ, List.getElem_mapIdx]
    rw [← are_has hs p.2 h1]
    have hi := hasE_iff (areZ a b p.2) (k % a : Nat) (k / a : Nat) h
    generalize k % a = cx at *
    generalize k / a = rx at *
    by_cases c : zHa (areZ a b p.2) (cx : Nat) (rx : Nat) = true
    · have := hi.1 c
      rw [if_pos c, if_pos (by omega)]
    · rw [if_neg c, if_neg]
      intro d
      exact c (hi.2 (by omega))
  · rw [if_pos rfl]
    apply List.ext_getElem (by rw [List.length_mapIdx])
    intro k h1 h2
    rw [hL] at h1
    rw [List.getElem_mapIdx, ← are_has hs p.2 h1, hasE_em h, if_neg (by simp)]
theorem drwS_snoc {a b : Nat} (hs : szB a b = true) {L : List Ce} (hL : L.length = a * b) (A : List (St × Rc)) (p : St × Rc) (hp : drw p.1 = true) : stpS a b (drwS a L A) p = drwS a L (A ++ [p]) := by
  rw [stp_map hs (by rw [drwS_len, hL])]
  apply List.ext_getElem (by rw [List.length_mapIdx, drwS_len, drwS_len])
  intro k h1 h2
  simp only [List.getElem_mapIdx, drwS, drwC, List.foldl_append, List.foldl_cons, List.foldl_nil, hp, Bool.true_and]
  rfl

end Go.Proofs.YtcahdmfmcojaoaaGreatDoor

/-
  Package list's own ways in plain words: the lowest clip is all places; pieces that may be empty; what opaque Fills hide, the last stroke first.
-/
namespace Go.Proofs.YtcahdmfmcojaoaaGreatDoor

theorem me_nil {a b : Rc} (h : zEm a = true ∨ zEm b = true) : zMe a b = zr := by
  unfold zMe meetR
  unfold zEm at h
  rw [if_pos (by rcases h with h | h <;> rw [h] <;> simp)]
theorem me_btw {a b : Rc} (ha : zEm a = false) (hb : zEm b = false) : zMe a b = btw (max a.x b.x) (max a.y b.y) (min (a.x + a.w) (b.x + b.w)) (min (a.y + a.h) (b.y + b.h)) := by
  unfold zMe meetR
  unfold zEm at ha hb
  rw [ha, hb]
  rfl
theorem em_zr : zEm zr = true := by decide +kernel
theorem em_mk {r : Rc} (h1 : -16384 ≤ r.x) (h2 : -16384 ≤ r.y) (h3 : r.x + r.w ≤ 16384) (h4 : r.y + r.h ≤ 16384) (h5 : 0 < r.w) (h6 : 0 < r.h) : zEm r = false := by
  unfold zEm emptyB
  rw [may_iff.2 ⟨⟨by omega, by omega, by omega⟩, by omega, by omega, by omega⟩]
  simp
  omega
theorem em_bd {r : Rc} (h : zEm r = false) : -16384 ≤ r.x ∧ -16384 ≤ r.y ∧ r.x + r.w ≤ 16384 ∧ r.y + r.h ≤ 16384 ∧ 0 < r.w ∧ 0 < r.h := by
  have := bounds_of h
  omega
theorem me_em {a b : Rc} (h : zEm (zMe a b) = true) : zMe a b = zr := by
  cases ha : zEm a
  · cases hb : zEm b
    · rw [me_btw ha hb] at h ⊢
      obtain ⟨a1, a2, a3, a4, a5, a6⟩ := em_bd ha
      obtain ⟨b1, b2, b3, b4, b5, b6⟩ := em_bd hb
      unfold btw at h ⊢
      split at h
      · next hc => rw [if_pos hc]
      · next hc =>
        rw [em_mk (by simp only; omega) (by simp only; omega) (by simp only; omega) (by simp only; omega) (by simp only; omega) (by simp only; omega)] at h
        cases h
    · exact me_nil (.inr hb)
  · exact me_nil (.inl ha)
def evR : Rc := ⟨-16384, -16384, 32768, 32768⟩
theorem ev_em : zEm evR = false := by decide +kernel
def topP (cs : List Rc) : Rc :=
  match cs with
  | [] => evR
  | c :: _ => c
theorem shR_top {cs : List Rc} {s : St} : shR cs s = zMe s.r (topP cs) := by
  cases cs with
  | nil =>
    show (if zEm s.r = true then zr else s.r) = zMe s.r evR
    cases h : zEm s.r
    · rw [me_btw h ev_em]
      obtain ⟨a1, a2, a3, a4, a5, a6⟩ := em_bd h
      have e1 : max s.r.x evR.x = s.r.x := by unfold evR; simp only; omega
      have e2 : max s.r.y evR.y = s.r.y := by unfold evR; simp only; omega
      have e3 : min (s.r.x + s.r.w) (evR.x + evR.w) = s.r.x + s.r.w := by unfold evR; simp only; omega
      have e4 : min (s.r.y + s.r.h) (evR.y + evR.h) = s.r.y + s.r.h := by unfold evR; simp only; omega
      rw [e1, e2, e3, e4, btw_yes (by omega) (by omega)]
      simp only [Bool.false_eq_true, if_false]
      have f1 : s.r.x + s.r.w - s.r.x = s.r.w := by omega
      have f2 : s.r.y + s.r.h - s.r.y = s.r.h := by omega
      rw [f1, f2]
    · rw [me_nil (.inl h)]
      simp
  | cons c t =>
    show (if zEm (zMe s.r c) = true then zr else zMe s.r c) = zMe s.r c
    cases h : zEm (zMe s.r c)
    · simp
    · rw [me_em h]
      simp
theorem shR_may (cs : List Rc) (s : St) : zMa (shR cs s) = true := by
  cases e : zEm (shR cs s)
  · unfold zEm at e
    unfold zMa
    exact may_of e
  · rw [shR_top] at e ⊢
    rw [me_em e]
    decide +kernel

end Go.Proofs.YtcahdmfmcojaoaaGreatDoor

/-
  What is known of strokes that show, and of their rectangles.
-/
namespace Go.Proofs.YtcahdmfmcojaoaaGreatDoor
open Go.RowKit

theorem oneE_text {s : St} (h : oneE s = 0) : s.t.size ≤ 65536 := by
  unfold oneE at h
  split at h
  · cases h
  · next h1 =>
    have : wroK s = false := by
      cases e : wroK s
      · rfl
      · rw [e] at h1; simp at h1
    unfold wroK at this
    simp at this
    omega
theorem clpE_all : ∀ (l : List St) (n : Nat), clpE n l = 0 → ∀ s ∈ l, oneE s = 0
  | [], _, _, s, hs => by cases hs
  | t :: l, n, h, s, hs => by
    obtain ⟨h1, _, h3⟩ := clpE_cons h
    rcases List.mem_cons.1 hs with rfl | hs
    · exact h1
    · exact clpE_all l _ h3 s hs
theorem ann_mem : ∀ (l : List St) (cs : List Rc), ∀ p ∈ ann cs l, p.1 ∈ l ∧ ∃ c, p.2 = shR c p.1
  | [], _, p, hp => by cases hp
  | s :: l, cs, p, hp => by
    rcases List.mem_cons.1 (show p ∈ (s, shR cs s) :: ann (nxC cs s) l from hp) with rfl | hp
    · exact ⟨List.mem_cons_self, cs, rfl⟩
    · obtain ⟨h1, h2⟩ := ann_mem l _ p hp
      exact ⟨List.mem_cons_of_mem _ h1, h2⟩
theorem meet_sub {a b : Rc} (h : zEm (zMe a b) = false) : (a.x ≤ (zMe a b).x ∧ (zMe a b).x + (zMe a b).w ≤ a.x + a.w ∧ a.y ≤ (zMe a b).y ∧ (zMe a b).y + (zMe a b).h ≤ a.y + a.h) ∧ b.x ≤ (zMe a b).x ∧ (zMe a b).x + (zMe a b).w ≤ b.x + b.w ∧ b.y ≤ (zMe a b).y ∧ (zMe a b).y + (zMe a b).h ≤ b.y + b.h := by
  obtain ⟨-, e2, -, -, e5, -⟩ := (em_iff _).1 h
  unfold zMe meetR at e2 e5 ⊢
  split at e2
  · exact absurd e2 (by decide)
  · next c =>
    rw [if_neg c] at e5
    unfold btw at e2 e5 ⊢
    split at e2
    · exact absurd e2 (by decide)
    · next d =>
      rw [if_neg d] at e5
      simp only [if_neg c, if_neg d]
      dsimp only at d e2 e5 ⊢
      omega
theorem shR_sub {cs : List Rc} {s : St} (h : zEm (shR cs s) = false) : s.r.x ≤ (shR cs s).x ∧ (shR cs s).x + (shR cs s).w ≤ s.r.x + s.r.w ∧ s.r.y ≤ (shR cs s).y ∧ (shR cs s).y + (shR cs s).h ≤ s.r.y + s.r.h := by
  unfold shR at h ⊢
  split at h
  · exact absurd h (by decide)
  · next c =>
    rw [if_neg c]
    unfold topR at h ⊢
    split at h
    · exact ⟨Int.le_refl _, Int.le_refl _, Int.le_refl _, Int.le_refl _⟩
    · first | exact (meet_sub h).1 | exact (meet_sub h).2
structure PrF (p : St × Rc) : Prop where
  d : drw p.1 = true
  k : p.1.k = 1 ∨ p.1.k = 2 ∨ p.1.k = 3
  r : zMa p.1.r = true
  q : zMa p.2 = true
  t : p.1.t.size ≤ 65536
  i : zEm p.2 = false → p.1.r.x ≤ p.2.x ∧ p.2.x + p.2.w ≤ p.1.r.x + p.1.r.w ∧ p.1.r.y ≤ p.2.y ∧ p.2.y + p.2.h ≤ p.1.r.y + p.1.r.h
theorem fla_facts {l : List St} (h : chkS l = 0) : ∀ p ∈ flaL l, PrF p ∧ p.1 ∈ l := by
  intro p hp
  have h0 : clpE 0 l = 0 := by
    unfold chkS at h
    split at h
    · cases h
    · exact h
  unfold flaL at hp
  obtain ⟨ha, hd⟩ := List.mem_filter.1 hp
  obtain ⟨hm, c, hc⟩ := ann_mem l [] p ha
  have h1 := clpE_all l 0 h0 p.1 hm
  obtain ⟨z1, z2, -⟩ := oneE_zero h1
  have hd' : drw p.1 = true := by simpa using hd
  refine ⟨⟨hd', ?_, z1, by rw [hc]; exact shR_may _ _, oneE_text h1, fun he => by rw [hc] at he ⊢; exact shR_sub he⟩, hm⟩
  unfold drw at hd'
  simp at hd'
  omega

end Go.Proofs.YtcahdmfmcojaoaaGreatDoor
