/-
  Texts of this claim, one behind the other: what each is about stands ahead of it.
-/
import Derived.Test.YtleoaanjcccooaaGreatDoorK14
import Derived.Test.YtleoaanjcccooaaGreatDoorK4
import Derived.Test.YtleoaanjcccooaaGreatDoorK3
/-
  A list drawn on a screen, in plain words: stroke by stroke is place by place.
-/
namespace Go.Proofs.YtleoaanjcccooaaGreatDoor
open Go.RowKit

/-- The screen behind strokes with their rectangles, place by place. -/
def drwS (a : Nat) (L : List Ce) (A : List (St × Rc)) : List Ce := L.mapIdx fun k c => drwC wrP overC (k % a : Nat) (k / a : Nat) c A
theorem drwS_len (a : Nat) (L : List Ce) (A : List (St × Rc)) : (drwS a L A).length = L.length := by simp [drwS]
theorem drwS_nil (a : Nat) (L : List Ce) : drwS a L [] = L := by
  apply List.ext_getElem (drwS_len _ _ _)
  intro k h1 h2
  simp [drwS, drwC]
/-- The area of a screen in which a stroke shows. -/
def areZ (a b : Nat) (q : Rc) : Rc := zMe q ⟨0, 0, a, b⟩
/-- One stroke. -/
def stpS (a b : Nat) (L : List Ce) (p : St × Rc) : List Ce :=
  if zEm (areZ a b p.2) = true then L else updQ L a (areZ a b p.2).x.toNat (areZ a b p.2).y.toNat (areZ a b p.2).w.toNat (areZ a b p.2).h.toNat (madK p.1 a)
theorem hasE_iff (r : Rc) (px py : Int) (h : zEm r = false) : zHa r px py = true ↔ r.x ≤ px ∧ px < r.x + r.w ∧ r.y ≤ py ∧ py < r.y + r.h := by
  unfold zHa hasB
  rw [show emptyB r.x r.y r.w r.h = false from h]
  simp
theorem hasE_em {r : Rc} {px py : Int} (h : zEm r = true) : zHa r px py = false := by
  unfold zHa hasB
  rw [show emptyB r.x r.y r.w r.h = true from h]
  rfl
/-- Where the area lies. -/
theorem are_in {a b : Nat} {q : Rc} (h : zEm (areZ a b q) = false) : 0 ≤ (areZ a b q).x ∧ 0 < (areZ a b q).w ∧ (areZ a b q).x + (areZ a b q).w ≤ a ∧ 0 ≤ (areZ a b q).y ∧ 0 < (areZ a b q).h ∧ (areZ a b q).y + (areZ a b q).h ≤ b ∧ q.x ≤ (areZ a b q).x ∧ (areZ a b q).x + (areZ a b q).w ≤ q.x + q.w ∧ q.y ≤ (areZ a b q).y ∧ (areZ a b q).y + (areZ a b q).h ≤ q.y + q.h := by
  obtain ⟨-, e2, -, -, e5, -⟩ := (em_iff _).1 h
  unfold areZ zMe meetR at e2 e5 ⊢
  split at e2
  · exact absurd e2 (by decide)
  · next c =>
    rw [if_neg c] at e5
    unfold btw at e2 e5 ⊢
    split at e2
    · exact absurd e2 (by decide)
    · next d =>
      rw [if_neg d] at e5
      simp only [if_neg c, if_neg d]
      dsimp only at d e2 e5 ⊢
      omega
theorem are_has {a b : Nat} (hs : szB a b = true) (q : Rc) {k : Nat} (h : k < a * b) : zHa (areZ a b q) (k % a : Nat) (k / a : Nat) = zHa q (k % a : Nat) (k / a : Nat) := by
  have ha : 0 < a := by
    rcases Nat.eq_zero_or_pos a with e | e
    · rw [e, Nat.zero_mul] at h; omega
    · exact e
  have h1 := Nat.mod_lt k ha
  have h2 : k / a < b := Nat.div_lt_of_lt_mul h
  obtain ⟨s1, s2, s3, s4, -⟩ := szB_iff.1 hs
  unfold areZ
  generalize k % a = c at *
  generalize k / a = r at *
  have e : zHa ⟨0, 0, a, b⟩ (c : Nat) (r : Nat) = true := (hasE_iff _ _ _ ((em_iff _).2 (by simp only; omega))).2 (by simp only; omega)
  rw [has_meet, e, Bool.and_true]
/-- One stroke, place by place. -/
theorem stp_map {a b : Nat} (hs : szB a b = true) {L : List Ce} (hL : L.length = a * b) (p : St × Rc) : stpS a b L p = L.mapIdx fun k c => if zHa p.2 (k % a : Nat) (k / a : Nat) = true then madK p.1 a k c else c := by
  unfold stpS
  cases h : zEm (areZ a b p.2)
  · rw [if_neg (by simp)]
    obtain ⟨r1, r2, r3, r4, r5, r6, -⟩ := are_in h
    apply List.ext_getElem (by rw [updQ_len, List.length_mapIdx])
    intro k h1 h2
    rw [updQ_len, hL] at h1
    simp only [updQ, List.getElem_mapIdx]
    rw [← are_has hs p.2 h1]
    have hi := hasE_iff (areZ a b p.2) (k % a : Nat) (k / a : Nat) h
    generalize k % a = cx at *
    generalize k / a = rx at *
    by_cases c : zHa (areZ a b p.2) (cx : Nat) (rx : Nat) = true
    · have := hi.1 c
      rw [if_pos c, if_pos (by omega)]
    · rw [if_neg c, if_neg]
      intro d
      exact c (hi.2 (by omega))
  · rw [if_pos rfl]
    apply List.ext_getElem (by rw [List.length_mapIdx])
    intro k h1 h2
    rw [hL] at h1
    rw [List.getElem_mapIdx, ← are_has hs p.2 h1, hasE_em h, if_neg (by simp)]
theorem drwS_snoc {a b : Nat} (hs : szB a b = true) {L : List Ce} (hL : L.length = a * b) (A : List (St × Rc)) (p : St × Rc) (hp : drw p.1 = true) : stpS a b (drwS a L A) p = drwS a L (A ++ [p]) := by
  rw [stp_map hs (by rw [drwS_len, hL])]
  apply List.ext_getElem (by rw [List.length_mapIdx, drwS_len, drwS_len])
  intro k h1 h2
  simp only [List.getElem_mapIdx, drwS, drwC, List.foldl_append, List.foldl_cons, List.foldl_nil, hp, Bool.true_and]
  rfl

end Go.Proofs.YtleoaanjcccooaaGreatDoor

/-
  Package list's own ways in plain words: the lowest clip is all places; pieces that may be empty; what opaque Fills hide, the last stroke first.
-/
namespace Go.Proofs.YtleoaanjcccooaaGreatDoor

theorem me_nil {a b : Rc} (h : zEm a = true ∨ zEm b = true) : zMe a b = zr := by
  unfold zMe meetR
  unfold zEm at h
  rw [if_pos (by rcases h with h | h <;> rw [h] <;> simp)]
theorem me_btw {a b : Rc} (ha : zEm a = false) (hb : zEm b = false) : zMe a b = btw (max a.x b.x) (max a.y b.y) (min (a.x + a.w) (b.x + b.w)) (min (a.y + a.h) (b.y + b.h)) := by
  unfold zMe meetR
  unfold zEm at ha hb
  rw [ha, hb]
  rfl
theorem em_zr : zEm zr = true := by decide +kernel
theorem em_mk {r : Rc} (h1 : -16384 ≤ r.x) (h2 : -16384 ≤ r.y) (h3 : r.x + r.w ≤ 16384) (h4 : r.y + r.h ≤ 16384) (h5 : 0 < r.w) (h6 : 0 < r.h) : zEm r = false := by
  unfold zEm emptyB
  rw [may_iff.2 ⟨⟨by omega, by omega, by omega⟩, by omega, by omega, by omega⟩]
  simp
  omega
theorem em_bd {r : Rc} (h : zEm r = false) : -16384 ≤ r.x ∧ -16384 ≤ r.y ∧ r.x + r.w ≤ 16384 ∧ r.y + r.h ≤ 16384 ∧ 0 < r.w ∧ 0 < r.h := by
  have := bounds_of h
  omega
theorem me_em {a b : Rc} (h : zEm (zMe a b) = true) : zMe a b = zr := by
  cases ha : zEm a
  · cases hb : zEm b
    · rw [me_btw ha hb] at h ⊢
      obtain ⟨a1, a2, a3, a4, a5, a6⟩ := em_bd ha
      obtain ⟨b1, b2, b3, b4, b5, b6⟩ := em_bd hb
      unfold btw at h ⊢
      split at h
      · next hc => rw [if_pos hc]
      · next hc =>
        rw [em_mk (by simp only; omega) (by simp only; omega) (by simp only; omega) (by simp only; omega) (by simp only; omega) (by simp only; omega)] at h
        cases h
    · exact me_nil (.inr hb)
  · exact me_nil (.inl ha)
theorem me_turn (a b : Rc) : zMe a b = zMe b a := by
  cases ha : zEm a
  · cases hb : zEm b
    · rw [me_btw ha hb, me_btw hb ha]
      congr 1 <;> omega
    · rw [me_nil (.inr hb), me_nil (.inl hb)]
  · rw [me_nil (.inl ha), me_nil (.inr ha)]

/-- All places. -/
def evR : Rc := ⟨-16384, -16384, 32768, 32768⟩
theorem ev_em : zEm evR = false := by decide +kernel
def topP (cs : List Rc) : Rc :=
  match cs with
  | [] => evR
  | c :: _ => c
theorem shR_top {cs : List Rc} {s : St} : shR cs s = zMe s.r (topP cs) := by
  cases cs with
  | nil =>
    show (if zEm s.r = true then zr else s.r) = zMe s.r evR
    cases h : zEm s.r
    · rw [me_btw h ev_em]
      obtain ⟨a1, a2, a3, a4, a5, a6⟩ := em_bd h
      have e1 : max s.r.x evR.x = s.r.x := by unfold evR; simp only; omega
      have e2 : max s.r.y evR.y = s.r.y := by unfold evR; simp only; omega
      have e3 : min (s.r.x + s.r.w) (evR.x + evR.w) = s.r.x + s.r.w := by unfold evR; simp only; omega
      have e4 : min (s.r.y + s.r.h) (evR.y + evR.h) = s.r.y + s.r.h := by unfold evR; simp only; omega
      rw [e1, e2, e3, e4, btw_yes (by omega) (by omega)]
      simp only [Bool.false_eq_true, if_false]
      have f1 : s.r.x + s.r.w - s.r.x = s.r.w := by omega
      have f2 : s.r.y + s.r.h - s.r.y = s.r.h := by omega
      rw [f1, f2]
    · rw [me_nil (.inl h)]
      simp
  | cons c t =>
    show (if zEm (zMe s.r c) = true then zr else zMe s.r c) = zMe s.r c
    cases h : zEm (zMe s.r c)
    · simp
    · rw [me_em h]
      simp
theorem shR_em {cs : List Rc} {s : St} (h : zEm (shR cs s) = false) : zEm s.r = false := by
  cases e : zEm s.r
  · rfl
  · rw [shR_top, me_nil (.inl e), em_zr] at h
    cases h
theorem shR_may (cs : List Rc) (s : St) : zMa (shR cs s) = true := by
  cases e : zEm (shR cs s)
  · unfold zEm at e
    unfold zMa
    exact may_of e
  · rw [shR_top] at e ⊢
    rw [me_em e]
    decide +kernel

/-- What a stroke draws of the rectangle in which it shows, with pieces that are empty. -/
def brdL (f r : Rc) : List Rc := [zMe r ⟨f.x, f.y, f.w, 1⟩, zMe r ⟨f.x, f.y, 1, f.h⟩, zMe r ⟨f.x + f.w - 1, f.y, 1, f.h⟩, zMe r ⟨f.x, f.y + f.h - 1, f.w, 1⟩]
def dwnL (s : St) (r : Rc) : List Rc := if s.k = 1 ∧ 0 < s.c.a ∨ s.k = 3 ∧ s.t.size ≠ 0 then [r] else if s.k = 2 ∧ 0 < s.c.a then brdL s.r r else []
theorem side_btw {f : Rc} (h : zEm f = false) : sidR f = [⟨f.x, f.y, f.w, 1⟩, ⟨f.x, f.y, 1, f.h⟩, ⟨f.x + f.w - 1, f.y, 1, f.h⟩, ⟨f.x, f.y + f.h - 1, f.w, 1⟩] := by
  obtain ⟨a1, a2, a3, a4, a5, a6⟩ := em_bd h
  unfold sidR
  rw [btw_yes (by omega) (by omega), btw_yes (by omega) (by omega), btw_yes (by omega) (by omega), btw_yes (by omega) (by omega)]
  have e1 : f.x + f.w - f.x = f.w := by omega
  have e2 : f.y + 1 - f.y = 1 := by omega
  have e3 : f.x + 1 - f.x = 1 := by omega
  have e4 : f.y + f.h - f.y = f.h := by omega
  have e5 : f.x + f.w - (f.x + f.w - 1) = 1 := by omega
  have e6 : f.y + f.h - (f.y + f.h - 1) = 1 := by omega
  rw [e1, e2, e3, e4, e5, e6]
theorem dwn_plc {s : St} {r : Rc} (hk : s.k = 1 ∨ s.k = 2 ∨ s.k = 3 ∨ s.k = 4 ∨ s.k = 5) (hc : 0 ≤ s.c.a) (hr : zEm r = false → zEm s.r = false) : (dwnL s r).filter (fun q => !zEm q) = plc s r := by
  unfold dwnL plc noP drw
  cases he : zEm r
  · have hs := hr he
    rcases hk with k | k | k | k | k
    · by_cases ha : s.c.a = 0
      · simp [k, ha]
      · have : 0 < s.c.a := by omega
        simp [k, ha, this, he]
    · by_cases ha : s.c.a = 0
      · simp [k, ha]
      · have h0 : 0 < s.c.a := by omega
        have e : brdL s.r r = (sidR s.r).map (fun q => zMe q r) := by
          rw [side_btw hs]
          unfold brdL
          simp only [List.map_cons, List.map_nil]
          rw [me_turn r, me_turn r, me_turn r, me_turn r]
        rw [if_neg (by omega), if_pos ⟨k, h0⟩, e]
        simp [k, ha]
    · by_cases ht : s.t.size = 0
      · simp [k, ht]
      · simp [k, ht, he]
    · simp [k]
    · simp [k]
  · have hb : (brdL s.r r).filter (fun q => !zEm q) = [] := by
      unfold brdL
      rw [me_nil (.inl he), me_nil (.inl he), me_nil (.inl he), me_nil (.inl he)]
      simp [em_zr]
    simp only [Bool.true_or, if_true]
    split
    · simp [he]
    · split
      · exact hb
      · rfl
theorem dwn_len (s : St) (r : Rc) : (dwnL s r).length ≤ 4 := by
  unfold dwnL
  split
  · simp
  · split
    · simp [brdL]
    · simp

end Go.Proofs.YtleoaanjcccooaaGreatDoor

/-
  What is known of strokes that show, and of their rectangles.
-/
namespace Go.Proofs.YtleoaanjcccooaaGreatDoor
open Go.RowKit

theorem oneE_text {s : St} (h : oneE s = 0) : s.t.size ≤ 65536 := by
  unfold oneE at h
  split at h
  · cases h
  · next h1 =>
    have : wroK s = false := by
      cases e : wroK s
      · rfl
      · rw [e] at h1; simp at h1
    unfold wroK at this
    simp at this
    omega
theorem clpE_all : ∀ (l : List St) (n : Nat), clpE n l = 0 → ∀ s ∈ l, oneE s = 0
  | [], _, _, s, hs => by cases hs
  | t :: l, n, h, s, hs => by
    obtain ⟨h1, _, h3⟩ := clpE_cons h
    rcases List.mem_cons.1 hs with rfl | hs
    · exact h1
    · exact clpE_all l _ h3 s hs
theorem ann_mem : ∀ (l : List St) (cs : List Rc), ∀ p ∈ ann cs l, p.1 ∈ l ∧ ∃ c, p.2 = shR c p.1
  | [], _, p, hp => by cases hp
  | s :: l, cs, p, hp => by
    rcases List.mem_cons.1 (show p ∈ (s, shR cs s) :: ann (nxC cs s) l from hp) with rfl | hp
    · exact ⟨List.mem_cons_self, cs, rfl⟩
    · obtain ⟨h1, h2⟩ := ann_mem l _ p hp
      exact ⟨List.mem_cons_of_mem _ h1, h2⟩
theorem meet_sub {a b : Rc} (h : zEm (zMe a b) = false) : (a.x ≤ (zMe a b).x ∧ (zMe a b).x + (zMe a b).w ≤ a.x + a.w ∧ a.y ≤ (zMe a b).y ∧ (zMe a b).y + (zMe a b).h ≤ a.y + a.h) ∧ b.x ≤ (zMe a b).x ∧ (zMe a b).x + (zMe a b).w ≤ b.x + b.w ∧ b.y ≤ (zMe a b).y ∧ (zMe a b).y + (zMe a b).h ≤ b.y + b.h := by
  obtain ⟨-, e2, -, -, e5, -⟩ := (em_iff _).1 h
  unfold zMe meetR at e2 e5 ⊢
  split at e2
  · exact absurd e2 (by decide)
  · next c =>
    rw [if_neg c] at e5
    unfold btw at e2 e5 ⊢
    split at e2
    · exact absurd e2 (by decide)
    · next d =>
      rw [if_neg d] at e5
      simp only [if_neg c, if_neg d]
      dsimp only at d e2 e5 ⊢
      omega
theorem shR_sub {cs : List Rc} {s : St} (h : zEm (shR cs s) = false) : s.r.x ≤ (shR cs s).x ∧ (shR cs s).x + (shR cs s).w ≤ s.r.x + s.r.w ∧ s.r.y ≤ (shR cs s).y ∧ (shR cs s).y + (shR cs s).h ≤ s.r.y + s.r.h := by
  unfold shR at h ⊢
  split at h
  · exact absurd h (by decide)
  · next c =>
    rw [if_neg c]
    unfold topR at h ⊢
    split at h
    · exact ⟨Int.le_refl _, Int.le_refl _, Int.le_refl _, Int.le_refl _⟩
    · first | exact (meet_sub h).1 | exact (meet_sub h).2
/-- What is known of a pair. -/
structure PrF (p : St × Rc) : Prop where
  d : drw p.1 = true
  k : p.1.k = 1 ∨ p.1.k = 2 ∨ p.1.k = 3
  r : zMa p.1.r = true
  q : zMa p.2 = true
  t : p.1.t.size ≤ 65536
  i : zEm p.2 = false → p.1.r.x ≤ p.2.x ∧ p.2.x + p.2.w ≤ p.1.r.x + p.1.r.w ∧ p.1.r.y ≤ p.2.y ∧ p.2.y + p.2.h ≤ p.1.r.y + p.1.r.h
theorem fla_facts {l : List St} (h : chkS l = 0) : ∀ p ∈ flaL l, PrF p ∧ p.1 ∈ l := by
  intro p hp
  have h0 : clpE 0 l = 0 := by
    unfold chkS at h
    split at h
    · cases h
    · exact h
  unfold flaL at hp
  obtain ⟨ha, hd⟩ := List.mem_filter.1 hp
  obtain ⟨hm, c, hc⟩ := ann_mem l [] p ha
  have h1 := clpE_all l 0 h0 p.1 hm
  obtain ⟨z1, z2, -⟩ := oneE_zero h1
  have hd' : drw p.1 = true := by simpa using hd
  refine ⟨⟨hd', ?_, z1, by rw [hc]; exact shR_may _ _, oneE_text h1, fun he => by rw [hc] at he ⊢; exact shR_sub he⟩, hm⟩
  unfold drw at hd'
  simp at hd'
  omega

end Go.Proofs.YtleoaanjcccooaaGreatDoor

/-
  Contracts of package list: what is wrong with a stroke, what is wrong with a list.
-/
namespace Go.Proofs.YtleoaanjcccooaaGreatDoor
open Go.RowKit

/-- One of the five kinds. -/
def Kd (s : St) : Prop := s.k = 1 ∨ s.k = 2 ∨ s.k = 3 ∨ s.k = 4 ∨ s.k = 5
theorem kd_one {s : St} (h : oneE s = 0) : Kd s := (oneE_zero h).2.1
theorem chk_zMa (r : Rc) : chk r.x r.y r.w r.h = if zMa r = true then 0 else 5 := rfl
theorem eql_rc0 (a : Rc) (w : World) : (binOp .eql 55 (.agg #[.int .i64 a.x, .int .i64 a.y, .int .i64 a.w, .int .i64 a.h]) (.agg #[.int .i64 0, .int .i64 0, .int .i64 0, .int .i64 0])).run Tryz.prog w = .ok (.bool (zZr a)) w := by
  simp [go_sem]
  exact chainZ (chainZ (chainZ chainY))

set_option maxHeartbeats 1000000 in
theorem draws_any (s : St) (w : World) (hk : Kd s) : Calls Tryz.prog 30 #[(Value.agg #[.int .u8 s.k, .int .i64 s.r.x, .int .i64 s.r.y, .int .i64 s.r.w, .int .i64 s.r.h, .int .u8 s.c.r, .int .u8 s.c.g, .int .u8 s.c.b, .int .u8 s.c.a, .int .u8 s.b.r, .int .u8 s.b.g, .int .u8 s.b.b, .int .u8 s.b.a, .string s.t, .int .i64 s.n])] w fun e w' => e = .returned (.bool (drw s)) ∧ Below w.heap.size w w' := by
  have HL : Hid (∀ c, Below w.heap.size w (w.alloc c)) := fun c => (Below.refl _ w).alloc (Nat.le_refl _) _
  rcases hk with hk | hk | hk | hk | hk
  all_goals
    have hd : drw s = decide (s.k < 4) := rfl
    rw [hk] at hd
    rw [hd]
    clear hd
    go_enter Tryz.func30, Tryz.ntmps30
    go_wp2
    go_ret
    exact ⟨rfl, HL.out _⟩

theorem wroF_cases {s : St} (hk : Kd s) :
    (s.k ≠ 3 ∧ s.t.size ≠ 0 ∧ wroF s = true) ∨ (s.k ≠ 3 ∧ s.t.size = 0 ∧ coE s.b = false ∧ wroF s = true) ∨
    ((s.k = 4 ∨ s.k = 5) ∧ s.t.size = 0 ∧ coE s.b = true ∧ coE s.c = false ∧ wroF s = true) ∨
    ((s.k = 1 ∨ s.k = 2) ∧ s.t.size = 0 ∧ coE s.b = true ∧ wroF s = false) ∨ (s.k = 3 ∧ wroF s = false) ∨
    (s.k = 4 ∧ s.t.size = 0 ∧ coE s.b = true ∧ coE s.c = true ∧ wroF s = false) ∨
    (s.k = 5 ∧ s.t.size = 0 ∧ coE s.b = true ∧ coE s.c = true ∧ wroF s = !zZr s.r) := by
  unfold wroF
  by_cases hz : s.t.size = 0
  · cases hb : coE s.b <;> cases hc : coE s.c <;> cases hr : zZr s.r <;> rcases hk with k | k | k | k | k <;> simp [k, hz]
  · rcases hk with k | k | k | k | k <;> simp [k, hz]

set_option maxRecDepth 20000 in
set_option maxHeartbeats 4000000 in
theorem fields_4c (r : Rc) (c b : Co) (n : Int) (w : World) (hb : coE b = true) (hc : coE c = false) : Calls Tryz.prog 103 #[(Value.agg #[.int .u8 (⟨4, r, c, b, ByteArray.empty, n⟩ : St).k, .int .i64 (⟨4, r, c, b, ByteArray.empty, n⟩ : St).r.x, .int .i64 (⟨4, r, c, b, ByteArray.empty, n⟩ : St).r.y, .int .i64 (⟨4, r, c, b, ByteArray.empty, n⟩ : St).r.w, .int .i64 (⟨4, r, c, b, ByteArray.empty, n⟩ : St).r.h, .int .u8 (⟨4, r, c, b, ByteArray.empty, n⟩ : St).c.r, .int .u8 (⟨4, r, c, b, ByteArray.empty, n⟩ : St).c.g, .int .u8 (⟨4, r, c, b, ByteArray.empty, n⟩ : St).c.b, .int .u8 (⟨4, r, c, b, ByteArray.empty, n⟩ : St).c.a, .int .u8 (⟨4, r, c, b, ByteArray.empty, n⟩ : St).b.r, .int .u8 (⟨4, r, c, b, ByteArray.empty, n⟩ : St).b.g, .int .u8 (⟨4, r, c, b, ByteArray.empty, n⟩ : St).b.b, .int .u8 (⟨4, r, c, b, ByteArray.empty, n⟩ : St).b.a, .string (⟨4, r, c, b, ByteArray.empty, n⟩ : St).t, .int .i64 (⟨4, r, c, b, ByteArray.empty, n⟩ : St).n])] w fun e w' => e = .returned (.bool false) ∧ Below w.heap.size w w' := by
  have HL : Hid (∀ c, Below w.heap.size w (w.alloc c)) := fun c => (Below.refl _ w).alloc (Nat.le_refl _) _
  have HD : Hid (∀ W, Calls Tryz.prog 30 #[(Value.agg #[.int .u8 (⟨4, r, c, b, ByteArray.empty, n⟩ : St).k, .int .i64 (⟨4, r, c, b, ByteArray.empty, n⟩ : St).r.x, .int .i64 (⟨4, r, c, b, ByteArray.empty, n⟩ : St).r.y, .int .i64 (⟨4, r, c, b, ByteArray.empty, n⟩ : St).r.w, .int .i64 (⟨4, r, c, b, ByteArray.empty, n⟩ : St).r.h, .int .u8 (⟨4, r, c, b, ByteArray.empty, n⟩ : St).c.r, .int .u8 (⟨4, r, c, b, ByteArray.empty, n⟩ : St).c.g, .int .u8 (⟨4, r, c, b, ByteArray.empty, n⟩ : St).c.b, .int .u8 (⟨4, r, c, b, ByteArray.empty, n⟩ : St).c.a, .int .u8 (⟨4, r, c, b, ByteArray.empty, n⟩ : St).b.r, .int .u8 (⟨4, r, c, b, ByteArray.empty, n⟩ : St).b.g, .int .u8 (⟨4, r, c, b, ByteArray.empty, n⟩ : St).b.b, .int .u8 (⟨4, r, c, b, ByteArray.empty, n⟩ : St).b.a, .string (⟨4, r, c, b, ByteArray.empty, n⟩ : St).t, .int .i64 (⟨4, r, c, b, ByteArray.empty, n⟩ : St).n])] W fun e w' => e = .returned (.bool false) ∧ Below W.heap.size W w') := fun W => draws_any (⟨4, r, c, b, ByteArray.empty, n⟩ : St) W (by unfold Kd; simp)
  have HB : Hid (∀ W, Below (w.alloc (.cells (#[.int .u8 (⟨4, r, c, b, ByteArray.empty, n⟩ : St).k, .int .i64 (⟨4, r, c, b, ByteArray.empty, n⟩ : St).r.x, .int .i64 (⟨4, r, c, b, ByteArray.empty, n⟩ : St).r.y, .int .i64 (⟨4, r, c, b, ByteArray.empty, n⟩ : St).r.w, .int .i64 (⟨4, r, c, b, ByteArray.empty, n⟩ : St).r.h, .int .u8 (⟨4, r, c, b, ByteArray.empty, n⟩ : St).c.r, .int .u8 (⟨4, r, c, b, ByteArray.empty, n⟩ : St).c.g, .int .u8 (⟨4, r, c, b, ByteArray.empty, n⟩ : St).c.b, .int .u8 (⟨4, r, c, b, ByteArray.empty, n⟩ : St).c.a, .int .u8 (⟨4, r, c, b, ByteArray.empty, n⟩ : St).b.r, .int .u8 (⟨4, r, c, b, ByteArray.empty, n⟩ : St).b.g, .int .u8 (⟨4, r, c, b, ByteArray.empty, n⟩ : St).b.b, .int .u8 (⟨4, r, c, b, ByteArray.empty, n⟩ : St).b.a, .string (⟨4, r, c, b, ByteArray.empty, n⟩ : St).t, .int .i64 (⟨4, r, c, b, ByteArray.empty, n⟩ : St).n]) 58)).heap.size (w.alloc (.cells (#[.int .u8 (⟨4, r, c, b, ByteArray.empty, n⟩ : St).k, .int .i64 (⟨4, r, c, b, ByteArray.empty, n⟩ : St).r.x, .int .i64 (⟨4, r, c, b, ByteArray.empty, n⟩ : St).r.y, .int .i64 (⟨4, r, c, b, ByteArray.empty, n⟩ : St).r.w, .int .i64 (⟨4, r, c, b, ByteArray.empty, n⟩ : St).r.h, .int .u8 (⟨4, r, c, b, ByteArray.empty, n⟩ : St).c.r, .int .u8 (⟨4, r, c, b, ByteArray.empty, n⟩ : St).c.g, .int .u8 (⟨4, r, c, b, ByteArray.empty, n⟩ : St).c.b, .int .u8 (⟨4, r, c, b, ByteArray.empty, n⟩ : St).c.a, .int .u8 (⟨4, r, c, b, ByteArray.empty, n⟩ : St).b.r, .int .u8 (⟨4, r, c, b, ByteArray.empty, n⟩ : St).b.g, .int .u8 (⟨4, r, c, b, ByteArray.empty, n⟩ : St).b.b, .int .u8 (⟨4, r, c, b, ByteArray.empty, n⟩ : St).b.a, .string (⟨4, r, c, b, ByteArray.empty, n⟩ : St).t, .int .i64 (⟨4, r, c, b, ByteArray.empty, n⟩ : St).n]) 58)) W → Bk W w.heap.size (#[.int .u8 (⟨4, r, c, b, ByteArray.empty, n⟩ : St).k, .int .i64 (⟨4, r, c, b, ByteArray.empty, n⟩ : St).r.x, .int .i64 (⟨4, r, c, b, ByteArray.empty, n⟩ : St).r.y, .int .i64 (⟨4, r, c, b, ByteArray.empty, n⟩ : St).r.w, .int .i64 (⟨4, r, c, b, ByteArray.empty, n⟩ : St).r.h, .int .u8 (⟨4, r, c, b, ByteArray.empty, n⟩ : St).c.r, .int .u8 (⟨4, r, c, b, ByteArray.empty, n⟩ : St).c.g, .int .u8 (⟨4, r, c, b, ByteArray.empty, n⟩ : St).c.b, .int .u8 (⟨4, r, c, b, ByteArray.empty, n⟩ : St).c.a, .int .u8 (⟨4, r, c, b, ByteArray.empty, n⟩ : St).b.r, .int .u8 (⟨4, r, c, b, ByteArray.empty, n⟩ : St).b.g, .int .u8 (⟨4, r, c, b, ByteArray.empty, n⟩ : St).b.b, .int .u8 (⟨4, r, c, b, ByteArray.empty, n⟩ : St).b.a, .string (⟨4, r, c, b, ByteArray.empty, n⟩ : St).t, .int .i64 (⟨4, r, c, b, ByteArray.empty, n⟩ : St).n]) 58 ∧ Below w.heap.size w W) := fun W h => ⟨(Bk.new w _ _).below h, (HL.out _).trans (h.mono (HL.out _).size)⟩
  have E1 := neq_co0 b
  have E2 := neq_co0 c
  have E3 := eql_rc0 r
  rw [hb] at E1
  rw [hc] at E2
  go_enter Tryz.func103, Tryz.ntmps103
  go_wp2_with fail
  refine (HD.out _).mono ?_
  rintro e w1 ⟨rfl, hb1⟩
  obtain ⟨B1, B2⟩ := HB.out _ hb1
  have H1 : Hid (Below w.heap.size w w1) := B2
  have cc := B1.cell
  have a5 := cc 5
  have a6 := cc 6
  have a7 := cc 7
  have a8 := cc 8
  simp only [List.getElem?_toArray, List.getElem?_cons_zero, List.getElem?_cons_succ] at a5 a6 a7 a8
  clear hb1 B1 B2 cc HB HD
  go_wp2
  go_ret
  exact ⟨rfl, H1.out⟩

set_option maxRecDepth 20000 in
set_option maxHeartbeats 4000000 in
theorem fields_5c (r : Rc) (c b : Co) (n : Int) (w : World) (hb : coE b = true) (hc : coE c = false) : Calls Tryz.prog 103 #[(Value.agg #[.int .u8 (⟨5, r, c, b, ByteArray.empty, n⟩ : St).k, .int .i64 (⟨5, r, c, b, ByteArray.empty, n⟩ : St).r.x, .int .i64 (⟨5, r, c, b, ByteArray.empty, n⟩ : St).r.y, .int .i64 (⟨5, r, c, b, ByteArray.empty, n⟩ : St).r.w, .int .i64 (⟨5, r, c, b, ByteArray.empty, n⟩ : St).r.h, .int .u8 (⟨5, r, c, b, ByteArray.empty, n⟩ : St).c.r, .int .u8 (⟨5, r, c, b, ByteArray.empty, n⟩ : St).c.g, .int .u8 (⟨5, r, c, b, ByteArray.empty, n⟩ : St).c.b, .int .u8 (⟨5, r, c, b, ByteArray.empty, n⟩ : St).c.a, .int .u8 (⟨5, r, c, b, ByteArray.empty, n⟩ : St).b.r, .int .u8 (⟨5, r, c, b, ByteArray.empty, n⟩ : St).b.g, .int .u8 (⟨5, r, c, b, ByteArray.empty, n⟩ : St).b.b, .int .u8 (⟨5, r, c, b, ByteArray.empty, n⟩ : St).b.a, .string (⟨5, r, c, b, ByteArray.empty, n⟩ : St).t, .int .i64 (⟨5, r, c, b, ByteArray.empty, n⟩ : St).n])] w fun e w' => e = .returned (.bool false) ∧ Below w.heap.size w w' := by
  have HL : Hid (∀ c, Below w.heap.size w (w.alloc c)) := fun c => (Below.refl _ w).alloc (Nat.le_refl _) _
  have HD : Hid (∀ W, Calls Tryz.prog 30 #[(Value.agg #[.int .u8 (⟨5, r, c, b, ByteArray.empty, n⟩ : St).k, .int .i64 (⟨5, r, c, b, ByteArray.empty, n⟩ : St).r.x, .int .i64 (⟨5, r, c, b, ByteArray.empty, n⟩ : St).r.y, .int .i64 (⟨5, r, c, b, ByteArray.empty, n⟩ : St).r.w, .int .i64 (⟨5, r, c, b, ByteArray.empty, n⟩ : St).r.h, .int .u8 (⟨5, r, c, b, ByteArray.empty, n⟩ : St).c.r, .int .u8 (⟨5, r, c, b, ByteArray.empty, n⟩ : St).c.g, .int .u8 (⟨5, r, c, b, ByteArray.empty, n⟩ : St).c.b, .int .u8 (⟨5, r, c, b, ByteArray.empty, n⟩ : St).c.a, .int .u8 (⟨5, r, c, b, ByteArray.empty, n⟩ : St).b.r, .int .u8 (⟨5, r, c, b, ByteArray.empty, n⟩ : St).b.g, .int .u8 (⟨5, r, c, b, ByteArray.empty, n⟩ : St).b.b, .int .u8 (⟨5, r, c, b, ByteArray.empty, n⟩ : St).b.a, .string (⟨5, r, c, b, ByteArray.empty, n⟩ : St).t, .int .i64 (⟨5, r, c, b, ByteArray.empty, n⟩ : St).n])] W fun e w' => e = .returned (.bool false) ∧ Below W.heap.size W w') := fun W => draws_any (⟨5, r, c, b, ByteArray.empty, n⟩ : St) W (by unfold Kd; simp)
  have HB : Hid (∀ W, Below (w.alloc (.cells (#[.int .u8 (⟨5, r, c, b, ByteArray.empty, n⟩ : St).k, .int .i64 (⟨5, r, c, b, ByteArray.empty, n⟩ : St).r.x, .int .i64 (⟨5, r, c, b, ByteArray.empty, n⟩ : St).r.y, .int .i64 (⟨5, r, c, b, ByteArray.empty, n⟩ : St).r.w, .int .i64 (⟨5, r, c, b, ByteArray.empty, n⟩ : St).r.h, .int .u8 (⟨5, r, c, b, ByteArray.empty, n⟩ : St).c.r, .int .u8 (⟨5, r, c, b, ByteArray.empty, n⟩ : St).c.g, .int .u8 (⟨5, r, c, b, ByteArray.empty, n⟩ : St).c.b, .int .u8 (⟨5, r, c, b, ByteArray.empty, n⟩ : St).c.a, .int .u8 (⟨5, r, c, b, ByteArray.empty, n⟩ : St).b.r, .int .u8 (⟨5, r, c, b, ByteArray.empty, n⟩ : St).b.g, .int .u8 (⟨5, r, c, b, ByteArray.empty, n⟩ : St).b.b, .int .u8 (⟨5, r, c, b, ByteArray.empty, n⟩ : St).b.a, .string (⟨5, r, c, b, ByteArray.empty, n⟩ : St).t, .int .i64 (⟨5, r, c, b, ByteArray.empty, n⟩ : St).n]) 58)).heap.size (w.alloc (.cells (#[.int .u8 (⟨5, r, c, b, ByteArray.empty, n⟩ : St).k, .int .i64 (⟨5, r, c, b, ByteArray.empty, n⟩ : St).r.x, .int .i64 (⟨5, r, c, b, ByteArray.empty, n⟩ : St).r.y, .int .i64 (⟨5, r, c, b, ByteArray.empty, n⟩ : St).r.w, .int .i64 (⟨5, r, c, b, ByteArray.empty, n⟩ : St).r.h, .int .u8 (⟨5, r, c, b, ByteArray.empty, n⟩ : St).c.r, .int .u8 (⟨5, r, c, b, ByteArray.empty, n⟩ : St).c.g, .int .u8 (⟨5, r, c, b, ByteArray.empty, n⟩ : St).c.b, .int .u8 (⟨5, r, c, b, ByteArray.empty, n⟩ : St).c.a, .int .u8 (⟨5, r, c, b, ByteArray.empty, n⟩ : St).b.r, .int .u8 (⟨5, r, c, b, ByteArray.empty, n⟩ : St).b.g, .int .u8 (⟨5, r, c, b, ByteArray.empty, n⟩ : St).b.b, .int .u8 (⟨5, r, c, b, ByteArray.empty, n⟩ : St).b.a, .string (⟨5, r, c, b, ByteArray.empty, n⟩ : St).t, .int .i64 (⟨5, r, c, b, ByteArray.empty, n⟩ : St).n]) 58)) W → Bk W w.heap.size (#[.int .u8 (⟨5, r, c, b, ByteArray.empty, n⟩ : St).k, .int .i64 (⟨5, r, c, b, ByteArray.empty, n⟩ : St).r.x, .int .i64 (⟨5, r, c, b, ByteArray.empty, n⟩ : St).r.y, .int .i64 (⟨5, r, c, b, ByteArray.empty, n⟩ : St).r.w, .int .i64 (⟨5, r, c, b, ByteArray.empty, n⟩ : St).r.h, .int .u8 (⟨5, r, c, b, ByteArray.empty, n⟩ : St).c.r, .int .u8 (⟨5, r, c, b, ByteArray.empty, n⟩ : St).c.g, .int .u8 (⟨5, r, c, b, ByteArray.empty, n⟩ : St).c.b, .int .u8 (⟨5, r, c, b, ByteArray.empty, n⟩ : St).c.a, .int .u8 (⟨5, r, c, b, ByteArray.empty, n⟩ : St).b.r, .int .u8 (⟨5, r, c, b, ByteArray.empty, n⟩ : St).b.g, .int .u8 (⟨5, r, c, b, ByteArray.empty, n⟩ : St).b.b, .int .u8 (⟨5, r, c, b, ByteArray.empty, n⟩ : St).b.a, .string (⟨5, r, c, b, ByteArray.empty, n⟩ : St).t, .int .i64 (⟨5, r, c, b, ByteArray.empty, n⟩ : St).n]) 58 ∧ Below w.heap.size w W) := fun W h => ⟨(Bk.new w _ _).below h, (HL.out _).trans (h.mono (HL.out _).size)⟩
  have E1 := neq_co0 b
  have E2 := neq_co0 c
  have E3 := eql_rc0 r
  rw [hb] at E1
  rw [hc] at E2
  go_enter Tryz.func103, Tryz.ntmps103
  go_wp2_with fail
  refine (HD.out _).mono ?_
  rintro e w1 ⟨rfl, hb1⟩
  obtain ⟨B1, B2⟩ := HB.out _ hb1
  have H1 : Hid (Below w.heap.size w w1) := B2
  have cc := B1.cell
  have a5 := cc 5
  have a6 := cc 6
  have a7 := cc 7
  have a8 := cc 8
  simp only [List.getElem?_toArray, List.getElem?_cons_zero, List.getElem?_cons_succ] at a5 a6 a7 a8
  clear hb1 B1 B2 cc HB HD
  go_wp2
  go_ret
  exact ⟨rfl, H1.out⟩

set_option maxRecDepth 20000 in
set_option maxHeartbeats 4000000 in
theorem fields_1d (r : Rc) (c b : Co) (n : Int) (w : World) (hb : coE b = true) : Calls Tryz.prog 103 #[(Value.agg #[.int .u8 (⟨1, r, c, b, ByteArray.empty, n⟩ : St).k, .int .i64 (⟨1, r, c, b, ByteArray.empty, n⟩ : St).r.x, .int .i64 (⟨1, r, c, b, ByteArray.empty, n⟩ : St).r.y, .int .i64 (⟨1, r, c, b, ByteArray.empty, n⟩ : St).r.w, .int .i64 (⟨1, r, c, b, ByteArray.empty, n⟩ : St).r.h, .int .u8 (⟨1, r, c, b, ByteArray.empty, n⟩ : St).c.r, .int .u8 (⟨1, r, c, b, ByteArray.empty, n⟩ : St).c.g, .int .u8 (⟨1, r, c, b, ByteArray.empty, n⟩ : St).c.b, .int .u8 (⟨1, r, c, b, ByteArray.empty, n⟩ : St).c.a, .int .u8 (⟨1, r, c, b, ByteArray.empty, n⟩ : St).b.r, .int .u8 (⟨1, r, c, b, ByteArray.empty, n⟩ : St).b.g, .int .u8 (⟨1, r, c, b, ByteArray.empty, n⟩ : St).b.b, .int .u8 (⟨1, r, c, b, ByteArray.empty, n⟩ : St).b.a, .string (⟨1, r, c, b, ByteArray.empty, n⟩ : St).t, .int .i64 (⟨1, r, c, b, ByteArray.empty, n⟩ : St).n])] w fun e w' => e = .returned (.bool true) ∧ Below w.heap.size w w' := by
  have HL : Hid (∀ c, Below w.heap.size w (w.alloc c)) := fun c => (Below.refl _ w).alloc (Nat.le_refl _) _
  have HD : Hid (∀ W, Calls Tryz.prog 30 #[(Value.agg #[.int .u8 (⟨1, r, c, b, ByteArray.empty, n⟩ : St).k, .int .i64 (⟨1, r, c, b, ByteArray.empty, n⟩ : St).r.x, .int .i64 (⟨1, r, c, b, ByteArray.empty, n⟩ : St).r.y, .int .i64 (⟨1, r, c, b, ByteArray.empty, n⟩ : St).r.w, .int .i64 (⟨1, r, c, b, ByteArray.empty, n⟩ : St).r.h, .int .u8 (⟨1, r, c, b, ByteArray.empty, n⟩ : St).c.r, .int .u8 (⟨1, r, c, b, ByteArray.empty, n⟩ : St).c.g, .int .u8 (⟨1, r, c, b, ByteArray.empty, n⟩ : St).c.b, .int .u8 (⟨1, r, c, b, ByteArray.empty, n⟩ : St).c.a, .int .u8 (⟨1, r, c, b, ByteArray.empty, n⟩ : St).b.r, .int .u8 (⟨1, r, c, b, ByteArray.empty, n⟩ : St).b.g, .int .u8 (⟨1, r, c, b, ByteArray.empty, n⟩ : St).b.b, .int .u8 (⟨1, r, c, b, ByteArray.empty, n⟩ : St).b.a, .string (⟨1, r, c, b, ByteArray.empty, n⟩ : St).t, .int .i64 (⟨1, r, c, b, ByteArray.empty, n⟩ : St).n])] W fun e w' => e = .returned (.bool true) ∧ Below W.heap.size W w') := fun W => draws_any (⟨1, r, c, b, ByteArray.empty, n⟩ : St) W (by unfold Kd; simp)
  have HB : Hid (∀ W, Below (w.alloc (.cells (#[.int .u8 (⟨1, r, c, b, ByteArray.empty, n⟩ : St).k, .int .i64 (⟨1, r, c, b, ByteArray.empty, n⟩ : St).r.x, .int .i64 (⟨1, r, c, b, ByteArray.empty, n⟩ : St).r.y, .int .i64 (⟨1, r, c, b, ByteArray.empty, n⟩ : St).r.w, .int .i64 (⟨1, r, c, b, ByteArray.empty, n⟩ : St).r.h, .int .u8 (⟨1, r, c, b, ByteArray.empty, n⟩ : St).c.r, .int .u8 (⟨1, r, c, b, ByteArray.empty, n⟩ : St).c.g, .int .u8 (⟨1, r, c, b, ByteArray.empty, n⟩ : St).c.b, .int .u8 (⟨1, r, c, b, ByteArray.empty, n⟩ : St).c.a, .int .u8 (⟨1, r, c, b, ByteArray.empty, n⟩ : St).b.r, .int .u8 (⟨1, r, c, b, ByteArray.empty, n⟩ : St).b.g, .int .u8 (⟨1, r, c, b, ByteArray.empty, n⟩ : St).b.b, .int .u8 (⟨1, r, c, b, ByteArray.empty, n⟩ : St).b.a, .string (⟨1, r, c, b, ByteArray.empty, n⟩ : St).t, .int .i64 (⟨1, r, c, b, ByteArray.empty, n⟩ : St).n]) 58)).heap.size (w.alloc (.cells (#[.int .u8 (⟨1, r, c, b, ByteArray.empty, n⟩ : St).k, .int .i64 (⟨1, r, c, b, ByteArray.empty, n⟩ : St).r.x, .int .i64 (⟨1, r, c, b, ByteArray.empty, n⟩ : St).r.y, .int .i64 (⟨1, r, c, b, ByteArray.empty, n⟩ : St).r.w, .int .i64 (⟨1, r, c, b, ByteArray.empty, n⟩ : St).r.h, .int .u8 (⟨1, r, c, b, ByteArray.empty, n⟩ : St).c.r, .int .u8 (⟨1, r, c, b, ByteArray.empty, n⟩ : St).c.g, .int .u8 (⟨1, r, c, b, ByteArray.empty, n⟩ : St).c.b, .int .u8 (⟨1, r, c, b, ByteArray.empty, n⟩ : St).c.a, .int .u8 (⟨1, r, c, b, ByteArray.empty, n⟩ : St).b.r, .int .u8 (⟨1, r, c, b, ByteArray.empty, n⟩ : St).b.g, .int .u8 (⟨1, r, c, b, ByteArray.empty, n⟩ : St).b.b, .int .u8 (⟨1, r, c, b, ByteArray.empty, n⟩ : St).b.a, .string (⟨1, r, c, b, ByteArray.empty, n⟩ : St).t, .int .i64 (⟨1, r, c, b, ByteArray.empty, n⟩ : St).n]) 58)) W → Bk W w.heap.size (#[.int .u8 (⟨1, r, c, b, ByteArray.empty, n⟩ : St).k, .int .i64 (⟨1, r, c, b, ByteArray.empty, n⟩ : St).r.x, .int .i64 (⟨1, r, c, b, ByteArray.empty, n⟩ : St).r.y, .int .i64 (⟨1, r, c, b, ByteArray.empty, n⟩ : St).r.w, .int .i64 (⟨1, r, c, b, ByteArray.empty, n⟩ : St).r.h, .int .u8 (⟨1, r, c, b, ByteArray.empty, n⟩ : St).c.r, .int .u8 (⟨1, r, c, b, ByteArray.empty, n⟩ : St).c.g, .int .u8 (⟨1, r, c, b, ByteArray.empty, n⟩ : St).c.b, .int .u8 (⟨1, r, c, b, ByteArray.empty, n⟩ : St).c.a, .int .u8 (⟨1, r, c, b, ByteArray.empty, n⟩ : St).b.r, .int .u8 (⟨1, r, c, b, ByteArray.empty, n⟩ : St).b.g, .int .u8 (⟨1, r, c, b, ByteArray.empty, n⟩ : St).b.b, .int .u8 (⟨1, r, c, b, ByteArray.empty, n⟩ : St).b.a, .string (⟨1, r, c, b, ByteArray.empty, n⟩ : St).t, .int .i64 (⟨1, r, c, b, ByteArray.empty, n⟩ : St).n]) 58 ∧ Below w.heap.size w W) := fun W h => ⟨(Bk.new w _ _).below h, (HL.out _).trans (h.mono (HL.out _).size)⟩
  have E1 := neq_co0 b
  have E2 := neq_co0 c
  have E3 := eql_rc0 r
  rw [hb] at E1
  go_enter Tryz.func103, Tryz.ntmps103
  go_wp2_with fail
  refine (HD.out _).mono ?_
  rintro e w1 ⟨rfl, hb1⟩
  obtain ⟨B1, B2⟩ := HB.out _ hb1
  have H1 : Hid (Below w.heap.size w w1) := B2
  have cc := B1.cell
  have a0 := cc 0
  simp only [List.getElem?_toArray, List.getElem?_cons_zero] at a0
  clear hb1 B1 B2 cc HB HD
  go_wp2
  go_ret
  exact ⟨rfl, H1.out⟩

set_option maxRecDepth 20000 in
set_option maxHeartbeats 4000000 in
theorem fields_2d (r : Rc) (c b : Co) (n : Int) (w : World) (hb : coE b = true) : Calls Tryz.prog 103 #[(Value.agg #[.int .u8 (⟨2, r, c, b, ByteArray.empty, n⟩ : St).k, .int .i64 (⟨2, r, c, b, ByteArray.empty, n⟩ : St).r.x, .int .i64 (⟨2, r, c, b, ByteArray.empty, n⟩ : St).r.y, .int .i64 (⟨2, r, c, b, ByteArray.empty, n⟩ : St).r.w, .int .i64 (⟨2, r, c, b, ByteArray.empty, n⟩ : St).r.h, .int .u8 (⟨2, r, c, b, ByteArray.empty, n⟩ : St).c.r, .int .u8 (⟨2, r, c, b, ByteArray.empty, n⟩ : St).c.g, .int .u8 (⟨2, r, c, b, ByteArray.empty, n⟩ : St).c.b, .int .u8 (⟨2, r, c, b, ByteArray.empty, n⟩ : St).c.a, .int .u8 (⟨2, r, c, b, ByteArray.empty, n⟩ : St).b.r, .int .u8 (⟨2, r, c, b, ByteArray.empty, n⟩ : St).b.g, .int .u8 (⟨2, r, c, b, ByteArray.empty, n⟩ : St).b.b, .int .u8 (⟨2, r, c, b, ByteArray.empty, n⟩ : St).b.a, .string (⟨2, r, c, b, ByteArray.empty, n⟩ : St).t, .int .i64 (⟨2, r, c, b, ByteArray.empty, n⟩ : St).n])] w fun e w' => e = .returned (.bool true) ∧ Below w.heap.size w w' := by
  have HL : Hid (∀ c, Below w.heap.size w (w.alloc c)) := fun c => (Below.refl _ w).alloc (Nat.le_refl _) _
  have HD : Hid (∀ W, Calls Tryz.prog 30 #[(Value.agg #[.int .u8 (⟨2, r, c, b, ByteArray.empty, n⟩ : St).k, .int .i64 (⟨2, r, c, b, ByteArray.empty, n⟩ : St).r.x, .int .i64 (⟨2, r, c, b, ByteArray.empty, n⟩ : St).r.y, .int .i64 (⟨2, r, c, b, ByteArray.empty, n⟩ : St).r.w, .int .i64 (⟨2, r, c, b, ByteArray.empty, n⟩ : St).r.h, .int .u8 (⟨2, r, c, b, ByteArray.empty, n⟩ : St).c.r, .int .u8 (⟨2, r, c, b, ByteArray.empty, n⟩ : St).c.g, .int .u8 (⟨2, r, c, b, ByteArray.empty, n⟩ : St).c.b, .int .u8 (⟨2, r, c, b, ByteArray.empty, n⟩ : St).c.a, .int .u8 (⟨2, r, c, b, ByteArray.empty, n⟩ : St).b.r, .int .u8 (⟨2, r, c, b, ByteArray.empty, n⟩ : St).b.g, .int .u8 (⟨2, r, c, b, ByteArray.empty, n⟩ : St).b.b, .int .u8 (⟨2, r, c, b, ByteArray.empty, n⟩ : St).b.a, .string (⟨2, r, c, b, ByteArray.empty, n⟩ : St).t, .int .i64 (⟨2, r, c, b, ByteArray.empty, n⟩ : St).n])] W fun e w' => e = .returned (.bool true) ∧ Below W.heap.size W w') := fun W => draws_any (⟨2, r, c, b, ByteArray.empty, n⟩ : St) W (by unfold Kd; simp)
  have HB : Hid (∀ W, Below (w.alloc (.cells (#[.int .u8 (⟨2, r, c, b, ByteArray.empty, n⟩ : St).k, .int .i64 (⟨2, r, c, b, ByteArray.empty, n⟩ : St).r.x, .int .i64 (⟨2, r, c, b, ByteArray.empty, n⟩ : St).r.y, .int .i64 (⟨2, r, c, b, ByteArray.empty, n⟩ : St).r.w, .int .i64 (⟨2, r, c, b, ByteArray.empty, n⟩ : St).r.h, .int .u8 (⟨2, r, c, b, ByteArray.empty, n⟩ : St).c.r, .int .u8 (⟨2, r, c, b, ByteArray.empty, n⟩ : St).c.g, .int .u8 (⟨2, r, c, b, ByteArray.empty, n⟩ : St).c.b, .int .u8 (⟨2, r, c, b, ByteArray.empty, n⟩ : St).c.a, .int .u8 (⟨2, r, c, b, ByteArray.empty, n⟩ : St).b.r, .int .u8 (⟨2, r, c, b, ByteArray.empty, n⟩ : St).b.g, .int .u8 (⟨2, r, c, b, ByteArray.empty, n⟩ : St).b.b, .int .u8 (⟨2, r, c, b, ByteArray.empty, n⟩ : St).b.a, .string (⟨2, r, c, b, ByteArray.empty, n⟩ : St).t, .int .i64 (⟨2, r, c, b, ByteArray.empty, n⟩ : St).n]) 58)).heap.size (w.alloc (.cells (#[.int .u8 (⟨2, r, c, b, ByteArray.empty, n⟩ : St).k, .int .i64 (⟨2, r, c, b, ByteArray.empty, n⟩ : St).r.x, .int .i64 (⟨2, r, c, b, ByteArray.empty, n⟩ : St).r.y, .int .i64 (⟨2, r, c, b, ByteArray.empty, n⟩ : St).r.w, .int .i64 (⟨2, r, c, b, ByteArray.empty, n⟩ : St).r.h, .int .u8 (⟨2, r, c, b, ByteArray.empty, n⟩ : St).c.r, .int .u8 (⟨2, r, c, b, ByteArray.empty, n⟩ : St).c.g, .int .u8 (⟨2, r, c, b, ByteArray.empty, n⟩ : St).c.b, .int .u8 (⟨2, r, c, b, ByteArray.empty, n⟩ : St).c.a, .int .u8 (⟨2, r, c, b, ByteArray.empty, n⟩ : St).b.r, .int .u8 (⟨2, r, c, b, ByteArray.empty, n⟩ : St).b.g, .int .u8 (⟨2, r, c, b, ByteArray.empty, n⟩ : St).b.b, .int .u8 (⟨2, r, c, b, ByteArray.empty, n⟩ : St).b.a, .string (⟨2, r, c, b, ByteArray.empty, n⟩ : St).t, .int .i64 (⟨2, r, c, b, ByteArray.empty, n⟩ : St).n]) 58)) W → Bk W w.heap.size (#[.int .u8 (⟨2, r, c, b, ByteArray.empty, n⟩ : St).k, .int .i64 (⟨2, r, c, b, ByteArray.empty, n⟩ : St).r.x, .int .i64 (⟨2, r, c, b, ByteArray.empty, n⟩ : St).r.y, .int .i64 (⟨2, r, c, b, ByteArray.empty, n⟩ : St).r.w, .int .i64 (⟨2, r, c, b, ByteArray.empty, n⟩ : St).r.h, .int .u8 (⟨2, r, c, b, ByteArray.empty, n⟩ : St).c.r, .int .u8 (⟨2, r, c, b, ByteArray.empty, n⟩ : St).c.g, .int .u8 (⟨2, r, c, b, ByteArray.empty, n⟩ : St).c.b, .int .u8 (⟨2, r, c, b, ByteArray.empty, n⟩ : St).c.a, .int .u8 (⟨2, r, c, b, ByteArray.empty, n⟩ : St).b.r, .int .u8 (⟨2, r, c, b, ByteArray.empty, n⟩ : St).b.g, .int .u8 (⟨2, r, c, b, ByteArray.empty, n⟩ : St).b.b, .int .u8 (⟨2, r, c, b, ByteArray.empty, n⟩ : St).b.a, .string (⟨2, r, c, b, ByteArray.empty, n⟩ : St).t, .int .i64 (⟨2, r, c, b, ByteArray.empty, n⟩ : St).n]) 58 ∧ Below w.heap.size w W) := fun W h => ⟨(Bk.new w _ _).below h, (HL.out _).trans (h.mono (HL.out _).size)⟩
  have E1 := neq_co0 b
  have E2 := neq_co0 c
  have E3 := eql_rc0 r
  rw [hb] at E1
  go_enter Tryz.func103, Tryz.ntmps103
  go_wp2_with fail
  refine (HD.out _).mono ?_
  rintro e w1 ⟨rfl, hb1⟩
  obtain ⟨B1, B2⟩ := HB.out _ hb1
  have H1 : Hid (Below w.heap.size w w1) := B2
  have cc := B1.cell
  have a0 := cc 0
  simp only [List.getElem?_toArray, List.getElem?_cons_zero] at a0
  clear hb1 B1 B2 cc HB HD
  go_wp2
  go_ret
  exact ⟨rfl, H1.out⟩

set_option maxRecDepth 20000 in
set_option maxHeartbeats 4000000 in
theorem fields_3e (r : Rc) (c b : Co) (t : ByteArray) (n : Int) (w : World) : Calls Tryz.prog 103 #[(Value.agg #[.int .u8 (⟨3, r, c, b, t, n⟩ : St).k, .int .i64 (⟨3, r, c, b, t, n⟩ : St).r.x, .int .i64 (⟨3, r, c, b, t, n⟩ : St).r.y, .int .i64 (⟨3, r, c, b, t, n⟩ : St).r.w, .int .i64 (⟨3, r, c, b, t, n⟩ : St).r.h, .int .u8 (⟨3, r, c, b, t, n⟩ : St).c.r, .int .u8 (⟨3, r, c, b, t, n⟩ : St).c.g, .int .u8 (⟨3, r, c, b, t, n⟩ : St).c.b, .int .u8 (⟨3, r, c, b, t, n⟩ : St).c.a, .int .u8 (⟨3, r, c, b, t, n⟩ : St).b.r, .int .u8 (⟨3, r, c, b, t, n⟩ : St).b.g, .int .u8 (⟨3, r, c, b, t, n⟩ : St).b.b, .int .u8 (⟨3, r, c, b, t, n⟩ : St).b.a, .string (⟨3, r, c, b, t, n⟩ : St).t, .int .i64 (⟨3, r, c, b, t, n⟩ : St).n])] w fun e w' => e = .returned (.bool true) ∧ Below w.heap.size w w' := by
  have HL : Hid (∀ c, Below w.heap.size w (w.alloc c)) := fun c => (Below.refl _ w).alloc (Nat.le_refl _) _
  have HD : Hid (∀ W, Calls Tryz.prog 30 #[(Value.agg #[.int .u8 (⟨3, r, c, b, t, n⟩ : St).k, .int .i64 (⟨3, r, c, b, t, n⟩ : St).r.x, .int .i64 (⟨3, r, c, b, t, n⟩ : St).r.y, .int .i64 (⟨3, r, c, b, t, n⟩ : St).r.w, .int .i64 (⟨3, r, c, b, t, n⟩ : St).r.h, .int .u8 (⟨3, r, c, b, t, n⟩ : St).c.r, .int .u8 (⟨3, r, c, b, t, n⟩ : St).c.g, .int .u8 (⟨3, r, c, b, t, n⟩ : St).c.b, .int .u8 (⟨3, r, c, b, t, n⟩ : St).c.a, .int .u8 (⟨3, r, c, b, t, n⟩ : St).b.r, .int .u8 (⟨3, r, c, b, t, n⟩ : St).b.g, .int .u8 (⟨3, r, c, b, t, n⟩ : St).b.b, .int .u8 (⟨3, r, c, b, t, n⟩ : St).b.a, .string (⟨3, r, c, b, t, n⟩ : St).t, .int .i64 (⟨3, r, c, b, t, n⟩ : St).n])] W fun e w' => e = .returned (.bool true) ∧ Below W.heap.size W w') := fun W => draws_any (⟨3, r, c, b, t, n⟩ : St) W (by unfold Kd; simp)
  have HB : Hid (∀ W, Below (w.alloc (.cells (#[.int .u8 (⟨3, r, c, b, t, n⟩ : St).k, .int .i64 (⟨3, r, c, b, t, n⟩ : St).r.x, .int .i64 (⟨3, r, c, b, t, n⟩ : St).r.y, .int .i64 (⟨3, r, c, b, t, n⟩ : St).r.w, .int .i64 (⟨3, r, c, b, t, n⟩ : St).r.h, .int .u8 (⟨3, r, c, b, t, n⟩ : St).c.r, .int .u8 (⟨3, r, c, b, t, n⟩ : St).c.g, .int .u8 (⟨3, r, c, b, t, n⟩ : St).c.b, .int .u8 (⟨3, r, c, b, t, n⟩ : St).c.a, .int .u8 (⟨3, r, c, b, t, n⟩ : St).b.r, .int .u8 (⟨3, r, c, b, t, n⟩ : St).b.g, .int .u8 (⟨3, r, c, b, t, n⟩ : St).b.b, .int .u8 (⟨3, r, c, b, t, n⟩ : St).b.a, .string (⟨3, r, c, b, t, n⟩ : St).t, .int .i64 (⟨3, r, c, b, t, n⟩ : St).n]) 58)).heap.size (w.alloc (.cells (#[.int .u8 (⟨3, r, c, b, t, n⟩ : St).k, .int .i64 (⟨3, r, c, b, t, n⟩ : St).r.x, .int .i64 (⟨3, r, c, b, t, n⟩ : St).r.y, .int .i64 (⟨3, r, c, b, t, n⟩ : St).r.w, .int .i64 (⟨3, r, c, b, t, n⟩ : St).r.h, .int .u8 (⟨3, r, c, b, t, n⟩ : St).c.r, .int .u8 (⟨3, r, c, b, t, n⟩ : St).c.g, .int .u8 (⟨3, r, c, b, t, n⟩ : St).c.b, .int .u8 (⟨3, r, c, b, t, n⟩ : St).c.a, .int .u8 (⟨3, r, c, b, t, n⟩ : St).b.r, .int .u8 (⟨3, r, c, b, t, n⟩ : St).b.g, .int .u8 (⟨3, r, c, b, t, n⟩ : St).b.b, .int .u8 (⟨3, r, c, b, t, n⟩ : St).b.a, .string (⟨3, r, c, b, t, n⟩ : St).t, .int .i64 (⟨3, r, c, b, t, n⟩ : St).n]) 58)) W → Bk W w.heap.size (#[.int .u8 (⟨3, r, c, b, t, n⟩ : St).k, .int .i64 (⟨3, r, c, b, t, n⟩ : St).r.x, .int .i64 (⟨3, r, c, b, t, n⟩ : St).r.y, .int .i64 (⟨3, r, c, b, t, n⟩ : St).r.w, .int .i64 (⟨3, r, c, b, t, n⟩ : St).r.h, .int .u8 (⟨3, r, c, b, t, n⟩ : St).c.r, .int .u8 (⟨3, r, c, b, t, n⟩ : St).c.g, .int .u8 (⟨3, r, c, b, t, n⟩ : St).c.b, .int .u8 (⟨3, r, c, b, t, n⟩ : St).c.a, .int .u8 (⟨3, r, c, b, t, n⟩ : St).b.r, .int .u8 (⟨3, r, c, b, t, n⟩ : St).b.g, .int .u8 (⟨3, r, c, b, t, n⟩ : St).b.b, .int .u8 (⟨3, r, c, b, t, n⟩ : St).b.a, .string (⟨3, r, c, b, t, n⟩ : St).t, .int .i64 (⟨3, r, c, b, t, n⟩ : St).n]) 58 ∧ Below w.heap.size w W) := fun W h => ⟨(Bk.new w _ _).below h, (HL.out _).trans (h.mono (HL.out _).size)⟩
  have E1 := neq_co0 b
  have E2 := neq_co0 c
  have E3 := eql_rc0 r
  go_enter Tryz.func103, Tryz.ntmps103
  go_wp2_with fail
  refine (HD.out _).mono ?_
  rintro e w1 ⟨rfl, hb1⟩
  obtain ⟨B1, B2⟩ := HB.out _ hb1
  have H1 : Hid (Below w.heap.size w w1) := B2
  have cc := B1.cell
  have a0 := cc 0
  simp only [List.getElem?_toArray, List.getElem?_cons_zero] at a0
  clear hb1 B1 B2 cc HB HD
  go_wp2
  go_ret
  exact ⟨rfl, H1.out⟩

set_option maxRecDepth 20000 in
set_option maxHeartbeats 4000000 in
theorem fields_4f (r : Rc) (c b : Co) (n : Int) (w : World) (hb : coE b = true) (hc : coE c = true) : Calls Tryz.prog 103 #[(Value.agg #[.int .u8 (⟨4, r, c, b, ByteArray.empty, n⟩ : St).k, .int .i64 (⟨4, r, c, b, ByteArray.empty, n⟩ : St).r.x, .int .i64 (⟨4, r, c, b, ByteArray.empty, n⟩ : St).r.y, .int .i64 (⟨4, r, c, b, ByteArray.empty, n⟩ : St).r.w, .int .i64 (⟨4, r, c, b, ByteArray.empty, n⟩ : St).r.h, .int .u8 (⟨4, r, c, b, ByteArray.empty, n⟩ : St).c.r, .int .u8 (⟨4, r, c, b, ByteArray.empty, n⟩ : St).c.g, .int .u8 (⟨4, r, c, b, ByteArray.empty, n⟩ : St).c.b, .int .u8 (⟨4, r, c, b, ByteArray.empty, n⟩ : St).c.a, .int .u8 (⟨4, r, c, b, ByteArray.empty, n⟩ : St).b.r, .int .u8 (⟨4, r, c, b, ByteArray.empty, n⟩ : St).b.g, .int .u8 (⟨4, r, c, b, ByteArray.empty, n⟩ : St).b.b, .int .u8 (⟨4, r, c, b, ByteArray.empty, n⟩ : St).b.a, .string (⟨4, r, c, b, ByteArray.empty, n⟩ : St).t, .int .i64 (⟨4, r, c, b, ByteArray.empty, n⟩ : St).n])] w fun e w' => e = .returned (.bool true) ∧ Below w.heap.size w w' := by
  have HL : Hid (∀ c, Below w.heap.size w (w.alloc c)) := fun c => (Below.refl _ w).alloc (Nat.le_refl _) _
  have HD : Hid (∀ W, Calls Tryz.prog 30 #[(Value.agg #[.int .u8 (⟨4, r, c, b, ByteArray.empty, n⟩ : St).k, .int .i64 (⟨4, r, c, b, ByteArray.empty, n⟩ : St).r.x, .int .i64 (⟨4, r, c, b, ByteArray.empty, n⟩ : St).r.y, .int .i64 (⟨4, r, c, b, ByteArray.empty, n⟩ : St).r.w, .int .i64 (⟨4, r, c, b, ByteArray.empty, n⟩ : St).r.h, .int .u8 (⟨4, r, c, b, ByteArray.empty, n⟩ : St).c.r, .int .u8 (⟨4, r, c, b, ByteArray.empty, n⟩ : St).c.g, .int .u8 (⟨4, r, c, b, ByteArray.empty, n⟩ : St).c.b, .int .u8 (⟨4, r, c, b, ByteArray.empty, n⟩ : St).c.a, .int .u8 (⟨4, r, c, b, ByteArray.empty, n⟩ : St).b.r, .int .u8 (⟨4, r, c, b, ByteArray.empty, n⟩ : St).b.g, .int .u8 (⟨4, r, c, b, ByteArray.empty, n⟩ : St).b.b, .int .u8 (⟨4, r, c, b, ByteArray.empty, n⟩ : St).b.a, .string (⟨4, r, c, b, ByteArray.empty, n⟩ : St).t, .int .i64 (⟨4, r, c, b, ByteArray.empty, n⟩ : St).n])] W fun e w' => e = .returned (.bool false) ∧ Below W.heap.size W w') := fun W => draws_any (⟨4, r, c, b, ByteArray.empty, n⟩ : St) W (by unfold Kd; simp)
  have HB : Hid (∀ W, Below (w.alloc (.cells (#[.int .u8 (⟨4, r, c, b, ByteArray.empty, n⟩ : St).k, .int .i64 (⟨4, r, c, b, ByteArray.empty, n⟩ : St).r.x, .int .i64 (⟨4, r, c, b, ByteArray.empty, n⟩ : St).r.y, .int .i64 (⟨4, r, c, b, ByteArray.empty, n⟩ : St).r.w, .int .i64 (⟨4, r, c, b, ByteArray.empty, n⟩ : St).r.h, .int .u8 (⟨4, r, c, b, ByteArray.empty, n⟩ : St).c.r, .int .u8 (⟨4, r, c, b, ByteArray.empty, n⟩ : St).c.g, .int .u8 (⟨4, r, c, b, ByteArray.empty, n⟩ : St).c.b, .int .u8 (⟨4, r, c, b, ByteArray.empty, n⟩ : St).c.a, .int .u8 (⟨4, r, c, b, ByteArray.empty, n⟩ : St).b.r, .int .u8 (⟨4, r, c, b, ByteArray.empty, n⟩ : St).b.g, .int .u8 (⟨4, r, c, b, ByteArray.empty, n⟩ : St).b.b, .int .u8 (⟨4, r, c, b, ByteArray.empty, n⟩ : St).b.a, .string (⟨4, r, c, b, ByteArray.empty, n⟩ : St).t, .int .i64 (⟨4, r, c, b, ByteArray.empty, n⟩ : St).n]) 58)).heap.size (w.alloc (.cells (#[.int .u8 (⟨4, r, c, b, ByteArray.empty, n⟩ : St).k, .int .i64 (⟨4, r, c, b, ByteArray.empty, n⟩ : St).r.x, .int .i64 (⟨4, r, c, b, ByteArray.empty, n⟩ : St).r.y, .int .i64 (⟨4, r, c, b, ByteArray.empty, n⟩ : St).r.w, .int .i64 (⟨4, r, c, b, ByteArray.empty, n⟩ : St).r.h, .int .u8 (⟨4, r, c, b, ByteArray.empty, n⟩ : St).c.r, .int .u8 (⟨4, r, c, b, ByteArray.empty, n⟩ : St).c.g, .int .u8 (⟨4, r, c, b, ByteArray.empty, n⟩ : St).c.b, .int .u8 (⟨4, r, c, b, ByteArray.empty, n⟩ : St).c.a, .int .u8 (⟨4, r, c, b, ByteArray.empty, n⟩ : St).b.r, .int .u8 (⟨4, r, c, b, ByteArray.empty, n⟩ : St).b.g, .int .u8 (⟨4, r, c, b, ByteArray.empty, n⟩ : St).b.b, .int .u8 (⟨4, r, c, b, ByteArray.empty, n⟩ : St).b.a, .string (⟨4, r, c, b, ByteArray.empty, n⟩ : St).t, .int .i64 (⟨4, r, c, b, ByteArray.empty, n⟩ : St).n]) 58)) W → Bk W w.heap.size (#[.int .u8 (⟨4, r, c, b, ByteArray.empty, n⟩ : St).k, .int .i64 (⟨4, r, c, b, ByteArray.empty, n⟩ : St).r.x, .int .i64 (⟨4, r, c, b, ByteArray.empty, n⟩ : St).r.y, .int .i64 (⟨4, r, c, b, ByteArray.empty, n⟩ : St).r.w, .int .i64 (⟨4, r, c, b, ByteArray.empty, n⟩ : St).r.h, .int .u8 (⟨4, r, c, b, ByteArray.empty, n⟩ : St).c.r, .int .u8 (⟨4, r, c, b, ByteArray.empty, n⟩ : St).c.g, .int .u8 (⟨4, r, c, b, ByteArray.empty, n⟩ : St).c.b, .int .u8 (⟨4, r, c, b, ByteArray.empty, n⟩ : St).c.a, .int .u8 (⟨4, r, c, b, ByteArray.empty, n⟩ : St).b.r, .int .u8 (⟨4, r, c, b, ByteArray.empty, n⟩ : St).b.g, .int .u8 (⟨4, r, c, b, ByteArray.empty, n⟩ : St).b.b, .int .u8 (⟨4, r, c, b, ByteArray.empty, n⟩ : St).b.a, .string (⟨4, r, c, b, ByteArray.empty, n⟩ : St).t, .int .i64 (⟨4, r, c, b, ByteArray.empty, n⟩ : St).n]) 58 ∧ Below w.heap.size w W) := fun W h => ⟨(Bk.new w _ _).below h, (HL.out _).trans (h.mono (HL.out _).size)⟩
  have E1 := neq_co0 b
  have E2 := neq_co0 c
  have E3 := eql_rc0 r
  rw [hb] at E1
  rw [hc] at E2
  go_enter Tryz.func103, Tryz.ntmps103
  go_wp2_with fail
  refine (HD.out _).mono ?_
  rintro e w1 ⟨rfl, hb1⟩
  obtain ⟨B1, B2⟩ := HB.out _ hb1
  have H1 : Hid (Below w.heap.size w w1) := B2
  have cc := B1.cell
  have a0 := cc 0
  have a5 := cc 5
  have a6 := cc 6
  have a7 := cc 7
  have a8 := cc 8
  simp only [List.getElem?_toArray, List.getElem?_cons_zero, List.getElem?_cons_succ] at a0 a5 a6 a7 a8
  clear hb1 B1 B2 cc HB HD
  go_wp2
  go_ret
  exact ⟨rfl, H1.out⟩

set_option maxRecDepth 20000 in
set_option maxHeartbeats 4000000 in
theorem fields_5g (r : Rc) (c b : Co) (n : Int) (w : World) (hb : coE b = true) (hc : coE c = true) : Calls Tryz.prog 103 #[(Value.agg #[.int .u8 (⟨5, r, c, b, ByteArray.empty, n⟩ : St).k, .int .i64 (⟨5, r, c, b, ByteArray.empty, n⟩ : St).r.x, .int .i64 (⟨5, r, c, b, ByteArray.empty, n⟩ : St).r.y, .int .i64 (⟨5, r, c, b, ByteArray.empty, n⟩ : St).r.w, .int .i64 (⟨5, r, c, b, ByteArray.empty, n⟩ : St).r.h, .int .u8 (⟨5, r, c, b, ByteArray.empty, n⟩ : St).c.r, .int .u8 (⟨5, r, c, b, ByteArray.empty, n⟩ : St).c.g, .int .u8 (⟨5, r, c, b, ByteArray.empty, n⟩ : St).c.b, .int .u8 (⟨5, r, c, b, ByteArray.empty, n⟩ : St).c.a, .int .u8 (⟨5, r, c, b, ByteArray.empty, n⟩ : St).b.r, .int .u8 (⟨5, r, c, b, ByteArray.empty, n⟩ : St).b.g, .int .u8 (⟨5, r, c, b, ByteArray.empty, n⟩ : St).b.b, .int .u8 (⟨5, r, c, b, ByteArray.empty, n⟩ : St).b.a, .string (⟨5, r, c, b, ByteArray.empty, n⟩ : St).t, .int .i64 (⟨5, r, c, b, ByteArray.empty, n⟩ : St).n])] w fun e w' => e = .returned (.bool (zZr r)) ∧ Below w.heap.size w w' := by
  have HL : Hid (∀ c, Below w.heap.size w (w.alloc c)) := fun c => (Below.refl _ w).alloc (Nat.le_refl _) _
  have HD : Hid (∀ W, Calls Tryz.prog 30 #[(Value.agg #[.int .u8 (⟨5, r, c, b, ByteArray.empty, n⟩ : St).k, .int .i64 (⟨5, r, c, b, ByteArray.empty, n⟩ : St).r.x, .int .i64 (⟨5, r, c, b, ByteArray.empty, n⟩ : St).r.y, .int .i64 (⟨5, r, c, b, ByteArray.empty, n⟩ : St).r.w, .int .i64 (⟨5, r, c, b, ByteArray.empty, n⟩ : St).r.h, .int .u8 (⟨5, r, c, b, ByteArray.empty, n⟩ : St).c.r, .int .u8 (⟨5, r, c, b, ByteArray.empty, n⟩ : St).c.g, .int .u8 (⟨5, r, c, b, ByteArray.empty, n⟩ : St).c.b, .int .u8 (⟨5, r, c, b, ByteArray.empty, n⟩ : St).c.a, .int .u8 (⟨5, r, c, b, ByteArray.empty, n⟩ : St).b.r, .int .u8 (⟨5, r, c, b, ByteArray.empty, n⟩ : St).b.g, .int .u8 (⟨5, r, c, b, ByteArray.empty, n⟩ : St).b.b, .int .u8 (⟨5, r, c, b, ByteArray.empty, n⟩ : St).b.a, .string (⟨5, r, c, b, ByteArray.empty, n⟩ : St).t, .int .i64 (⟨5, r, c, b, ByteArray.empty, n⟩ : St).n])] W fun e w' => e = .returned (.bool false) ∧ Below W.heap.size W w') := fun W => draws_any (⟨5, r, c, b, ByteArray.empty, n⟩ : St) W (by unfold Kd; simp)
  have HB : Hid (∀ W, Below (w.alloc (.cells (#[.int .u8 (⟨5, r, c, b, ByteArray.empty, n⟩ : St).k, .int .i64 (⟨5, r, c, b, ByteArray.empty, n⟩ : St).r.x, .int .i64 (⟨5, r, c, b, ByteArray.empty, n⟩ : St).r.y, .int .i64 (⟨5, r, c, b, ByteArray.empty, n⟩ : St).r.w, .int .i64 (⟨5, r, c, b, ByteArray.empty, n⟩ : St).r.h, .int .u8 (⟨5, r, c, b, ByteArray.empty, n⟩ : St).c.r, .int .u8 (⟨5, r, c, b, ByteArray.empty, n⟩ : St).c.g, .int .u8 (⟨5, r, c, b, ByteArray.empty, n⟩ : St).c.b, .int .u8 (⟨5, r, c, b, ByteArray.empty, n⟩ : St).c.a, .int .u8 (⟨5, r, c, b, ByteArray.empty, n⟩ : St).b.r, .int .u8 (⟨5, r, c, b, ByteArray.empty, n⟩ : St).b.g, .int .u8 (⟨5, r, c, b, ByteArray.empty, n⟩ : St).b.b, .int .u8 (⟨5, r, c, b, ByteArray.empty, n⟩ : St).b.a, .string (⟨5, r, c, b, ByteArray.empty, n⟩ : St).t, .int .i64 (⟨5, r, c, b, ByteArray.empty, n⟩ : St).n]) 58)).heap.size (w.alloc (.cells (#[.int .u8 (⟨5, r, c, b, ByteArray.empty, n⟩ : St).k, .int .i64 (⟨5, r, c, b, ByteArray.empty, n⟩ : St).r.x, .int .i64 (⟨5, r, c, b, ByteArray.empty, n⟩ : St).r.y, .int .i64 (⟨5, r, c, b, ByteArray.empty, n⟩ : St).r.w, .int .i64 (⟨5, r, c, b, ByteArray.empty, n⟩ : St).r.h, .int .u8 (⟨5, r, c, b, ByteArray.empty, n⟩ : St).c.r, .int .u8 (⟨5, r, c, b, ByteArray.empty, n⟩ : St).c.g, .int .u8 (⟨5, r, c, b, ByteArray.empty, n⟩ : St).c.b, .int .u8 (⟨5, r, c, b, ByteArray.empty, n⟩ : St).c.a, .int .u8 (⟨5, r, c, b, ByteArray.empty, n⟩ : St).b.r, .int .u8 (⟨5, r, c, b, ByteArray.empty, n⟩ : St).b.g, .int .u8 (⟨5, r, c, b, ByteArray.empty, n⟩ : St).b.b, .int .u8 (⟨5, r, c, b, ByteArray.empty, n⟩ : St).b.a, .string (⟨5, r, c, b, ByteArray.empty, n⟩ : St).t, .int .i64 (⟨5, r, c, b, ByteArray.empty, n⟩ : St).n]) 58)) W → Bk W w.heap.size (#[.int .u8 (⟨5, r, c, b, ByteArray.empty, n⟩ : St).k, .int .i64 (⟨5, r, c, b, ByteArray.empty, n⟩ : St).r.x, .int .i64 (⟨5, r, c, b, ByteArray.empty, n⟩ : St).r.y, .int .i64 (⟨5, r, c, b, ByteArray.empty, n⟩ : St).r.w, .int .i64 (⟨5, r, c, b, ByteArray.empty, n⟩ : St).r.h, .int .u8 (⟨5, r, c, b, ByteArray.empty, n⟩ : St).c.r, .int .u8 (⟨5, r, c, b, ByteArray.empty, n⟩ : St).c.g, .int .u8 (⟨5, r, c, b, ByteArray.empty, n⟩ : St).c.b, .int .u8 (⟨5, r, c, b, ByteArray.empty, n⟩ : St).c.a, .int .u8 (⟨5, r, c, b, ByteArray.empty, n⟩ : St).b.r, .int .u8 (⟨5, r, c, b, ByteArray.empty, n⟩ : St).b.g, .int .u8 (⟨5, r, c, b, ByteArray.empty, n⟩ : St).b.b, .int .u8 (⟨5, r, c, b, ByteArray.empty, n⟩ : St).b.a, .string (⟨5, r, c, b, ByteArray.empty, n⟩ : St).t, .int .i64 (⟨5, r, c, b, ByteArray.empty, n⟩ : St).n]) 58 ∧ Below w.heap.size w W) := fun W h => ⟨(Bk.new w _ _).below h, (HL.out _).trans (h.mono (HL.out _).size)⟩
  have E1 := neq_co0 b
  have E2 := neq_co0 c
  have E3 := eql_rc0 r
  rw [hb] at E1
  rw [hc] at E2
  generalize zZr r = zb at *
  go_enter Tryz.func103, Tryz.ntmps103
  go_wp2_with fail
  refine (HD.out _).mono ?_
  rintro e w1 ⟨rfl, hb1⟩
  obtain ⟨B1, B2⟩ := HB.out _ hb1
  have H1 : Hid (Below w.heap.size w w1) := B2
  have cc := B1.cell
  have a0 := cc 0
  have a1 := cc 1
  have a2 := cc 2
  have a3 := cc 3
  have a4 := cc 4
  have a5 := cc 5
  have a6 := cc 6
  have a7 := cc 7
  have a8 := cc 8
  simp only [List.getElem?_toArray, List.getElem?_cons_zero, List.getElem?_cons_succ] at a0 a1 a2 a3 a4 a5 a6 a7 a8
  clear hb1 B1 B2 cc HB HD
  go_wp2
  go_ret
  exact ⟨rfl, H1.out⟩

set_option maxRecDepth 20000 in
set_option maxHeartbeats 4000000 in
theorem fields_any (s : St) (w : World) (hk : Kd s) : Calls Tryz.prog 103 #[(Value.agg #[.int .u8 s.k, .int .i64 s.r.x, .int .i64 s.r.y, .int .i64 s.r.w, .int .i64 s.r.h, .int .u8 s.c.r, .int .u8 s.c.g, .int .u8 s.c.b, .int .u8 s.c.a, .int .u8 s.b.r, .int .u8 s.b.g, .int .u8 s.b.b, .int .u8 s.b.a, .string s.t, .int .i64 s.n])] w fun e w' => e = .returned (.bool (!wroF s)) ∧ Below w.heap.size w w' := by
  have HL : Hid (∀ c, Below w.heap.size w (w.alloc c)) := fun c => (Below.refl _ w).alloc (Nat.le_refl _) _
  have cs := wroF_cases hk
  rcases cs with ⟨n3, hz, hf⟩ | ⟨n3, hz, hb, hf⟩ | ⟨hq, hz, hb, hc, hf⟩ | ⟨hq, hz, hb, hf⟩ | ⟨hq, hf⟩ | ⟨hq, hz, hb, hc, hf⟩ | ⟨hq, hz, hb, hc, hf⟩
  · rw [hf]
    obtain ⟨z1, z2⟩ := ztx_ne hz
    have E1 := neq_co0 s.b
    have E2 := neq_co0 s.c
    have E3 := eql_rc0 s.r
    clear hf
    rcases hk with hk | hk | hk | hk | hk
    rotate_left 2
    · exact absurd hk n3
    all_goals
      clear n3
      go_enter Tryz.func103, Tryz.ntmps103
      go_wp2
      go_ret
      exact ⟨rfl, HL.out _⟩
  · rw [hf]
    have E1 := neq_co0 s.b
    have E2 := neq_co0 s.c
    have E3 := eql_rc0 s.r
    rw [hb] at E1
    have hz2 := ztx_nil hz
    clear hf
    rcases hk with hk | hk | hk | hk | hk
    rotate_left 2
    · exact absurd hk n3
    all_goals
      clear n3
      go_enter Tryz.func103, Tryz.ntmps103
      go_wp2
      go_ret
      exact ⟨rfl, HL.out _⟩
  all_goals
    rw [hf]
    clear hf hk
    obtain ⟨k, r, c, b, t, n⟩ := s
    dsimp only at *
  · obtain rfl := ztx_nil hz
    rcases hq with rfl | rfl
    · exact fields_4c r c b n w hb hc
    · exact fields_5c r c b n w hb hc
  · obtain rfl := ztx_nil hz
    rcases hq with rfl | rfl
    · exact fields_1d r c b n w hb
    · exact fields_2d r c b n w hb
  · subst hq
    exact fields_3e r c b t n w
  · obtain rfl := ztx_nil hz
    subst hq
    exact fields_4f r c b n w hb hc
  · obtain rfl := ztx_nil hz
    subst hq
    rw [Bool.not_not]
    exact fields_5g r c b n w hb hc

set_option maxRecDepth 20000 in
set_option maxHeartbeats 4000000 in
theorem mayBe_any (s : St) (w : World) (ht : s.t.size ≤ 9223372036854775807) (hx : I64 s.r.x) (hy : I64 s.r.y) :
    Calls Tryz.prog 64 #[(Value.agg #[.int .u8 s.k, .int .i64 s.r.x, .int .i64 s.r.y, .int .i64 s.r.w, .int .i64 s.r.h, .int .u8 s.c.r, .int .u8 s.c.g, .int .u8 s.c.b, .int .u8 s.c.a, .int .u8 s.b.r, .int .u8 s.b.g, .int .u8 s.b.b, .int .u8 s.b.a, .string s.t, .int .i64 s.n])] w fun e w' => e = .returned (.int .i64 (oneE s)) ∧ Below w.heap.size w w' := by
  have HL : Hid (∀ c, Below w.heap.size w (w.alloc c)) := fun c => (Below.refl _ w).alloc (Nat.le_refl _) _
  unfold oneE
  cases hw : wroK s
  · obtain ⟨h1, h2, h3, h4, h5, hk⟩ := wroK_no hw
    have HF : Hid (∀ W, Calls Tryz.prog 103 #[(Value.agg #[.int .u8 s.k, .int .i64 s.r.x, .int .i64 s.r.y, .int .i64 s.r.w, .int .i64 s.r.h, .int .u8 s.c.r, .int .u8 s.c.g, .int .u8 s.c.b, .int .u8 s.c.a, .int .u8 s.b.r, .int .u8 s.b.g, .int .u8 s.b.b, .int .u8 s.b.a, .string s.t, .int .i64 s.n])] W fun e w' => e = .returned (.bool (!wroF s)) ∧ Below W.heap.size W w') := fun W => fields_any s W hk
    have HC : Hid (∀ W, Calls Tryz.prog 60 #[.agg #[.int .i64 s.r.x, .int .i64 s.r.y, .int .i64 s.r.w, .int .i64 s.r.h]] W fun e w' => e = .returned (.int .i64 (if zMa s.r = true then 0 else 5)) ∧ Below W.heap.size W w') := fun W => check_any _ _ _ _ W hx hy
    have HB : Hid (∀ W, Below (w.alloc (.cells (#[.int .u8 s.k, .int .i64 s.r.x, .int .i64 s.r.y, .int .i64 s.r.w, .int .i64 s.r.h, .int .u8 s.c.r, .int .u8 s.c.g, .int .u8 s.c.b, .int .u8 s.c.a, .int .u8 s.b.r, .int .u8 s.b.g, .int .u8 s.b.b, .int .u8 s.b.a, .string s.t, .int .i64 s.n]) 58)).heap.size (w.alloc (.cells (#[.int .u8 s.k, .int .i64 s.r.x, .int .i64 s.r.y, .int .i64 s.r.w, .int .i64 s.r.h, .int .u8 s.c.r, .int .u8 s.c.g, .int .u8 s.c.b, .int .u8 s.c.a, .int .u8 s.b.r, .int .u8 s.b.g, .int .u8 s.b.b, .int .u8 s.b.a, .string s.t, .int .i64 s.n]) 58)) W → Bk W w.heap.size (#[.int .u8 s.k, .int .i64 s.r.x, .int .i64 s.r.y, .int .i64 s.r.w, .int .i64 s.r.h, .int .u8 s.c.r, .int .u8 s.c.g, .int .u8 s.c.b, .int .u8 s.c.a, .int .u8 s.b.r, .int .u8 s.b.g, .int .u8 s.b.b, .int .u8 s.b.a, .string s.t, .int .i64 s.n]) 58 ∧ Below w.heap.size w W) := fun W h => ⟨(Bk.new w _ _).below h, (HL.out _).trans (h.mono (HL.out _).size)⟩
    have h1' : decide (s.k < 1) = false := decide_eq_false h1
    have h2' : decide (5 < s.k) = false := decide_eq_false h2
    rw [Bool.false_or]
    generalize (if zMa s.r = true then (0 : Int) else 5) = ce at *
    clear hw hk ht hx hy h1' h2'
    cases hf : wroF s
    · rw [hf] at HF
      rw [if_neg (by simp)]
      clear hf
      go_enter Tryz.func64, Tryz.ntmps64
      go_wp2_with fail
      refine (HF.out _).mono ?_
      rintro e w1 ⟨rfl, hb1⟩
      obtain ⟨B1, B2⟩ := HB.out _ hb1
      have H1 : Hid (Below w.heap.size w w1) := B2
      have cc := B1.cell
      have a1 := cc 1
      have a2 := cc 2
      have a3 := cc 3
      have a4 := cc 4
      simp only [List.getElem?_toArray, List.getElem?_cons_zero, List.getElem?_cons_succ] at a1 a2 a3 a4
      clear hb1 B1 B2 cc
      go_wp2_with fail
      refine (HC.out _).mono ?_
      rintro e w2 ⟨rfl, hb2⟩
      have H2 : Hid (Below w.heap.size w w2) := H1.out.trans (hb2.mono H1.out.size)
      clear hb2
      go_wp2
      go_ret
      exact ⟨rfl, H2.out⟩
    · rw [hf] at HF
      rw [if_pos rfl]
      clear hf
      go_enter Tryz.func64, Tryz.ntmps64
      go_wp2_with fail
      refine (HF.out _).mono ?_
      rintro e w1 ⟨rfl, hb1⟩
      have H1 : Hid (Below w.heap.size w w1) := (HB.out _ hb1).2
      clear hb1
      go_wp2
      go_ret
      exact ⟨rfl, H1.out⟩
  · rw [Bool.true_or, if_pos rfl]
    unfold wroK at hw
    simp only [Bool.or_eq_true, decide_eq_true_eq] at hw
    have cs : s.k < 1 ∨ (¬ s.k < 1 ∧ 5 < s.k) ∨ (¬ s.k < 1 ∧ ¬ 5 < s.k ∧ s.n < 0) ∨ (¬ s.k < 1 ∧ ¬ 5 < s.k ∧ ¬ s.n < 0 ∧ 1048576 < s.n) ∨ (¬ s.k < 1 ∧ ¬ 5 < s.k ∧ ¬ s.n < 0 ∧ ¬ 1048576 < s.n ∧ (65536 : Int) < (s.t.size : Int)) := by omega
    clear hw hx hy
    rcases cs with h1 | ⟨h1, h2⟩ | ⟨h1, h2, h3⟩ | ⟨h1, h2, h3, h4⟩ | ⟨h1, h2, h3, h4, h5⟩
    all_goals
      go_enter Tryz.func64, Tryz.ntmps64
      go_wp2
      go_ret
      exact ⟨rfl, HL.out _⟩

end Go.Proofs.YtleoaanjcccooaaGreatDoor
