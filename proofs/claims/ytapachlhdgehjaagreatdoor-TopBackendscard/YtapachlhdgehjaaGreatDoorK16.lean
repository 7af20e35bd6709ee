/-
  Texts of this claim, one behind the other: what each is about stands ahead of it.
-/
import Derived.Test.YtapachlhdgehjaaGreatDoorK15
import Derived.Test.YtapachlhdgehjaaGreatDoorK13
import Derived.Test.YtapachlhdgehjaaGreatDoorK3
import Derived.Test.YtapachlhdgehjaaGreatDoorK7
import Derived.Deep.RegionWith
import Derived.Deep.WholeRow
/-
  Package cells: draw (a stroke in the area in which it shows), what is asked of drawFrame.
-/
namespace Go.Proofs.YtapachlhdgehjaaGreatDoor
open Go.RowKit

def frmF (s : St) (a k : Nat) (c : Ce) : Ce := if frmR s.r (k % a : Nat) (k / a : Nat) ≠ 0 ∧ 0 < s.c.a then ⟨frmR s.r (k % a : Nat) (k / a : Nat), overC s.c c.b, c.b, false, false⟩ else c
def LFrm : Prop := ∀ (lo g n cap a b x y m hh : Nat) (L : List Ce) (s : St) (w : World), ScM lo w g n cap L → szB a b = true → (n : Int) = a * b → 0 < m → x + m ≤ a → y + hh ≤ b → s.c.ok → WfC L → zMa s.r = true → s.r.x ≤ x → s.r.y ≤ y → (x : Int) + m ≤ s.r.x + s.r.w → (y : Int) + hh ≤ s.r.y + s.r.h →
  (∀ W, w.grownBy W (some g) → (∀ i j : Nat, i < 4 → j < 4 → W.cell? ⟨1, i * 4 + j, none⟩ = some (.int .i32 (([0, 9474, 9474, 9474, 9472, 9484, 9488, 9474, 9472, 9492, 9496, 9474, 9472, 9472, 9472, 9633] : List Int).getD (i * 4 + j) 0)))) →
  Calls Tryz.prog 62 #[.agg #[.int .i64 (a : Nat), .int .i64 (b : Nat), .slice (some ⟨g, 0, none⟩) n cap], (Value.agg #[.int .u8 s.k, .int .i64 s.r.x, .int .i64 s.r.y, .int .i64 s.r.w, .int .i64 s.r.h, .int .u8 s.c.r, .int .u8 s.c.g, .int .u8 s.c.b, .int .u8 s.c.a, .int .u8 s.b.r, .int .u8 s.b.g, .int .u8 s.b.b, .int .u8 s.b.a, .string s.t, .int .i64 s.n]), .agg #[.int .i64 (x : Nat), .int .i64 (y : Nat), .int .i64 (m : Nat), .int .i64 (hh : Nat)]] w fun e w' => e = .returned (.tuple #[]) ∧ ScM lo w' g n cap (updQ L a x y m hh (frmF s a)) ∧ w.grownBy w' (some g)
def madK (s : St) (a k : Nat) (c : Ce) : Ce := madC wrP overC (k % a : Nat) (k / a : Nat) c s
theorem madK_fill {s : St} (h : s.k = 1) (L : List Ce) (a x y m hh : Nat) : updQ L a x y m hh (madK s a) = if s.c.a = 0 then L else updQ L a x y m hh (filC s.c) := by
  split
  · next h0 =>
    have e := updQ_congr (L := L) (a := a) (x := x) (y := y) (m := m) (j := hh) (f := madK s a) (f' := fun _ c => c) (fun k c _ _ _ _ => by unfold madK madC; rw [if_pos h, if_pos h0])
    rw [e]
    apply List.ext_getElem (updQ_len _ _ _ _ _ _ _)
    intro k h1 h2
    simp [updQ]
  · next h0 =>
    refine updQ_congr fun k c _ _ _ _ => ?_
    unfold madK madC filC
    rw [if_pos h, if_neg h0]
    by_cases h2 : s.c.a = 255
    · rw [if_pos h2, if_pos h2]
    · rw [if_neg h2, if_neg h2]
      rfl
theorem madK_frame {s : St} (h : s.k = 2) (L : List Ce) (a x y m hh : Nat) : updQ L a x y m hh (madK s a) = updQ L a x y m hh (frmF s a) := by
  refine updQ_congr fun k c _ _ _ _ => ?_
  unfold madK madC frmF
  rw [if_neg (by omega), if_pos h]
theorem madK_write {s : St} (h : s.k = 3) (L : List Ce) (a x y m hh : Nat) : updQ L a x y m hh (madK s a) = updQ L a x y m hh (wtF (wrP s.t) s a) := by
  refine updQ_congr fun k c _ _ _ _ => ?_
  unfold madK madC wtF wrtG
  rw [if_neg (by omega), if_neg (by omega), if_pos h]
  rfl

end Go.Proofs.YtapachlhdgehjaaGreatDoor

/-
  A list drawn on a screen, in plain words: stroke by stroke is place by place.
-/
namespace Go.Proofs.YtapachlhdgehjaaGreatDoor
open Go.RowKit

def drwS (a : Nat) (L : List Ce) (A : List (St × Rc)) : List Ce := L.mapIdx fun k c => drwC wrP overC (k % a : Nat) (k / a : Nat) c A
theorem drwS_len (a : Nat) (L : List Ce) (A : List (St × Rc)) : (drwS a L A).length = L.length := by simp [drwS]
theorem drwS_nil (a : Nat) (L : List Ce) : drwS a L [] = L := by
  apply List.ext_getElem (drwS_len _ _ _)
  intro k h1 h2
  simp [drwS, drwC]
def areZ (a b : Nat) (q : Rc) : Rc := zMe q ⟨0, 0, a, b⟩
def stpS (a b : Nat) (L : List Ce) (p : St × Rc) : List Ce :=
  if zEm (areZ a b p.2) = true then L else updQ L a (areZ a b p.2).x.toNat (areZ a b p.2).y.toNat (areZ a b p.2).w.toNat (areZ a b p.2).h.toNat (madK p.1 a)
theorem hasE_iff (r : Rc) (px py : Int) (h : zEm r = false) : zHa r px py = true ↔ r.x ≤ px ∧ px < r.x + r.w ∧ r.y ≤ py ∧ py < r.y + r.h := by
  unfold zHa hasB
  rw [show emptyB r.x r.y r.w r.h = false from h]
  simp
theorem hasE_em {r : Rc} {px py : Int} (h : zEm r = true) : zHa r px py = false := by
  unfold zHa hasB
  rw [show emptyB r.x r.y r.w r.h = true from h]
  rfl
theorem are_in {a b : Nat} {q : Rc} (h : zEm (areZ a b q) = false) : 0 ≤ (areZ a b q).x ∧ 0 < (areZ a b q).w ∧ (areZ a b q).x + (areZ a b q).w ≤ a ∧ 0 ≤ (areZ a b q).y ∧ 0 < (areZ a b q).h ∧ (areZ a b q).y + (areZ a b q).h ≤ b ∧ q.x ≤ (areZ a b q).x ∧ (areZ a b q).x + (areZ a b q).w ≤ q.x + q.w ∧ q.y ≤ (areZ a b q).y ∧ (areZ a b q).y + (areZ a b q).h ≤ q.y + q.h := by
  obtain ⟨-, e2, -, -, e5, -⟩ := (em_iff _).1 h
  unfold areZ zMe meetR at e2 e5 ⊢
  split at e2
  · exact absurd e2 (by decide)
  · next c =>
    rw [if_neg c] at e5
    unfold btw at e2 e5 ⊢
    split at e2
    · exact absurd e2 (by decide)
    · next d =>
      rw [if_neg d] at e5
      simp only [if_neg c, if_neg d]
      dsimp only at d e2 e5 ⊢
      omega
theorem are_has {a b : Nat} (hs : szB a b = true) (q : Rc) {k : Nat} (h : k < a * b) : zHa (areZ a b q) (k % a : Nat) (k / a : Nat) = zHa q (k % a : Nat) (k / a : Nat) := by
  have ha : 0 < a := by
    rcases Nat.eq_zero_or_pos a with e | e
    · rw [e, Nat.zero_mul] at h; omega
    · exact e
  have h1 := Nat.mod_lt k ha
  have h2 : k / a < b := Nat.div_lt_of_lt_mul h
  obtain ⟨s1, s2, s3, s4, -⟩ := szB_iff.1 hs
  unfold areZ
  generalize k % a = c at *
  generalize k / a = r at *
  have e : zHa ⟨0, 0, a, b⟩ (c : Nat) (r : Nat) = true := (hasE_iff _ _ _ ((em_iff _).2 (by simp only; omega))).2 (by simp only; omega)
  rw [has_meet, e, Bool.and_true]
theorem stp_map {a b : Nat} (hs : szB a b = true) {L : List Ce} (hL : L.length = a * b) (p : St × Rc) : stpS a b L p = L.mapIdx fun k c => if zHa p.2 (k % a : Nat) (k / a : Nat) = true then madK p.1 a k c else c := by
  unfold stpS
  cases h : zEm (areZ a b p.2)
  · rw [if_neg (by simp)]
    obtain ⟨r1, r2, r3, r4, r5, r6, -⟩ := are_in h
    apply List.ext_getElem (by rw [updQ_len, List.length_mapIdx])
    intro k h1 h2
    rw [updQ_len, hL] at h1
    simp only [updQ, List.getElem_mapIdx]
    rw [← are_has hs p.2 h1]
    have hi := hasE_iff (areZ a b p.2) (k % a : Nat) (k / a : Nat) h
    generalize k % a = cx at *
    generalize k / a = rx at *
    by_cases c : zHa (areZ a b p.2) (cx : Nat) (rx : Nat) = true
    · have := hi.1 c
      rw [if_pos c, if_pos (by omega)]
    · rw [if_neg c, if_neg]
      intro d
      exact c (hi.2 (by omega))
  · rw [if_pos rfl]
    apply List.ext_getElem (by rw [List.length_mapIdx])
    intro k h1 h2
    rw [hL] at h1
    rw [List.getElem_mapIdx, ← are_has hs p.2 h1, hasE_em h, if_neg (by simp)]
theorem drwS_snoc {a b : Nat} (hs : szB a b = true) {L : List Ce} (hL : L.length = a * b) (A : List (St × Rc)) (p : St × Rc) (hp : drw p.1 = true) : stpS a b (drwS a L A) p = drwS a L (A ++ [p]) := by
  rw [stp_map hs (by rw [drwS_len, hL])]
  apply List.ext_getElem (by rw [List.length_mapIdx, drwS_len, drwS_len])
  intro k h1 h2
  simp only [List.getElem_mapIdx, drwS, drwC, List.foldl_append, List.foldl_cons, List.foldl_nil, hp, Bool.true_and]
  rfl

end Go.Proofs.YtapachlhdgehjaaGreatDoor

/-
  Package list's own ways in plain words: the lowest clip is all places; pieces that may be empty; what opaque Fills hide, the last stroke first.
-/
namespace Go.Proofs.YtapachlhdgehjaaGreatDoor

theorem me_nil {a b : Rc} (h : zEm a = true ∨ zEm b = true) : zMe a b = zr := by
  unfold zMe meetR
  unfold zEm at h
  rw [if_pos (by rcases h with h | h <;> rw [h] <;> simp)]
theorem me_btw {a b : Rc} (ha : zEm a = false) (hb : zEm b = false) : zMe a b = btw (max a.x b.x) (max a.y b.y) (min (a.x + a.w) (b.x + b.w)) (min (a.y + a.h) (b.y + b.h)) := by
  unfold zMe meetR
  unfold zEm at ha hb
  rw [ha, hb]
  rfl
theorem em_zr : zEm zr = true := by decide +kernel
theorem em_mk {r : Rc} (h1 : -16384 ≤ r.x) (h2 : -16384 ≤ r.y) (h3 : r.x + r.w ≤ 16384) (h4 : r.y + r.h ≤ 16384) (h5 : 0 < r.w) (h6 : 0 < r.h) : zEm r = false := by
  unfold zEm emptyB
  rw [may_iff.2 ⟨⟨by omega, by omega, by omega⟩, by omega, by omega, by omega⟩]
  simp
  omega
theorem em_bd {r : Rc} (h : zEm r = false) : -16384 ≤ r.x ∧ -16384 ≤ r.y ∧ r.x + r.w ≤ 16384 ∧ r.y + r.h ≤ 16384 ∧ 0 < r.w ∧ 0 < r.h := by
  have := bounds_of h
  omega
theorem me_em {a b : Rc} (h : zEm (zMe a b) = true) : zMe a b = zr := by
  cases ha : zEm a
  · cases hb : zEm b
    · rw [me_btw ha hb] at h ⊢
      obtain ⟨a1, a2, a3, a4, a5, a6⟩ := em_bd ha
      obtain ⟨b1, b2, b3, b4, b5, b6⟩ := em_bd hb
      unfold btw at h ⊢
      split at h
      · next hc => rw [if_pos hc]
      · next hc =>
        rw [em_mk (by simp only; omega) (by simp only; omega) (by simp only; omega) (by simp only; omega) (by simp only; omega) (by simp only; omega)] at h
        cases h
    · exact me_nil (.inr hb)
  · exact me_nil (.inl ha)
def evR : Rc := ⟨-16384, -16384, 32768, 32768⟩
theorem ev_em : zEm evR = false := by decide +kernel
def topP (cs : List Rc) : Rc :=
  match cs with
  | [] => evR
  | c :: _ => c
theorem shR_top {cs : List Rc} {s : St} : shR cs s = zMe s.r (topP cs) := by
  cases cs with
  | nil =>
    show (if zEm s.r = true then zr else s.r) = zMe s.r evR
    cases h : zEm s.r
    · rw [me_btw h ev_em]
      obtain ⟨a1, a2, a3, a4, a5, a6⟩ := em_bd h
      have e1 : max s.r.x evR.x = s.r.x := by unfold evR; simp only; omega
      have e2 : max s.r.y evR.y = s.r.y := by unfold evR; simp only; omega
      have e3 : min (s.r.x + s.r.w) (evR.x + evR.w) = s.r.x + s.r.w := by unfold evR; simp only; omega
      have e4 : min (s.r.y + s.r.h) (evR.y + evR.h) = s.r.y + s.r.h := by unfold evR; simp only; omega
      rw [e1, e2, e3, e4, btw_yes (by omega) (by omega)]
      simp only [Bool.false_eq_true, if_false]
      have f1 : s.r.x + s.r.w - s.r.x = s.r.w := by omega
      have f2 : s.r.y + s.r.h - s.r.y = s.r.h := by omega
      rw [f1, f2]
    · rw [me_nil (.inl h)]
      simp
  | cons c t =>
    show (if zEm (zMe s.r c) = true then zr else zMe s.r c) = zMe s.r c
    cases h : zEm (zMe s.r c)
    · simp
    · rw [me_em h]
      simp
theorem shR_may (cs : List Rc) (s : St) : zMa (shR cs s) = true := by
  cases e : zEm (shR cs s)
  · unfold zEm at e
    unfold zMa
    exact may_of e
  · rw [shR_top] at e ⊢
    rw [me_em e]
    decide +kernel

end Go.Proofs.YtapachlhdgehjaaGreatDoor

/-
  What is known of strokes that show, and of their rectangles.
-/
namespace Go.Proofs.YtapachlhdgehjaaGreatDoor
open Go.RowKit

theorem oneE_text {s : St} (h : oneE s = 0) : s.t.size ≤ 65536 := by
  unfold oneE at h
  split at h
  · cases h
  · next h1 =>
    have : wroK s = false := by
      cases e : wroK s
      · rfl
      · rw [e] at h1; simp at h1
    unfold wroK at this
    simp at this
    omega
theorem clpE_all : ∀ (l : List St) (n : Nat), clpE n l = 0 → ∀ s ∈ l, oneE s = 0
  | [], _, _, s, hs => by cases hs
  | t :: l, n, h, s, hs => by
    obtain ⟨h1, _, h3⟩ := clpE_cons h
    rcases List.mem_cons.1 hs with rfl | hs
    · exact h1
    · exact clpE_all l _ h3 s hs
theorem ann_mem : ∀ (l : List St) (cs : List Rc), ∀ p ∈ ann cs l, p.1 ∈ l ∧ ∃ c, p.2 = shR c p.1
  | [], _, p, hp => by cases hp
  | s :: l, cs, p, hp => by
    rcases List.mem_cons.1 (show p ∈ (s, shR cs s) :: ann (nxC cs s) l from hp) with rfl | hp
    · exact ⟨List.mem_cons_self, cs, rfl⟩
    · obtain ⟨h1, h2⟩ := ann_mem l _ p hp
      exact ⟨List.mem_cons_of_mem _ h1, h2⟩
theorem meet_sub {a b : Rc} (h : zEm (zMe a b) = false) : (a.x ≤ (zMe a b).x ∧ (zMe a b).x + (zMe a b).w ≤ a.x + a.w ∧ a.y ≤ (zMe a b).y ∧ (zMe a b).y + (zMe a b).h ≤ a.y + a.h) ∧ b.x ≤ (zMe a b).x ∧ (zMe a b).x + (zMe a b).w ≤ b.x + b.w ∧ b.y ≤ (zMe a b).y ∧ (zMe a b).y + (zMe a b).h ≤ b.y + b.h := by
  obtain ⟨-, e2, -, -, e5, -⟩ := (em_iff _).1 h
  unfold zMe meetR at e2 e5 ⊢
  split at e2
  · exact absurd e2 (by decide)
  · next c =>
    rw [if_neg c] at e5
    unfold btw at e2 e5 ⊢
    split at e2
    · exact absurd e2 (by decide)
    · next d =>
      rw [if_neg d] at e5
      simp only [if_neg c, if_neg d]
      dsimp only at d e2 e5 ⊢
      omega
theorem shR_sub {cs : List Rc} {s : St} (h : zEm (shR cs s) = false) : s.r.x ≤ (shR cs s).x ∧ (shR cs s).x + (shR cs s).w ≤ s.r.x + s.r.w ∧ s.r.y ≤ (shR cs s).y ∧ (shR cs s).y + (shR cs s).h ≤ s.r.y + s.r.h := by
  unfold shR at h ⊢
  split at h
  · exact absurd h (by decide)
  · next c =>
    rw [if_neg c]
    unfold topR at h ⊢
    split at h
    · exact ⟨Int.le_refl _, Int.le_refl _, Int.le_refl _, Int.le_refl _⟩
    · first | exact (meet_sub h).1 | exact (meet_sub h).2
structure PrF (p : St × Rc) : Prop where
  d : drw p.1 = true
  k : p.1.k = 1 ∨ p.1.k = 2 ∨ p.1.k = 3
  r : zMa p.1.r = true
  q : zMa p.2 = true
  t : p.1.t.size ≤ 65536
  i : zEm p.2 = false → p.1.r.x ≤ p.2.x ∧ p.2.x + p.2.w ≤ p.1.r.x + p.1.r.w ∧ p.1.r.y ≤ p.2.y ∧ p.2.y + p.2.h ≤ p.1.r.y + p.1.r.h
theorem fla_facts {l : List St} (h : chkS l = 0) : ∀ p ∈ flaL l, PrF p ∧ p.1 ∈ l := by
  intro p hp
  have h0 : clpE 0 l = 0 := by
    unfold chkS at h
    split at h
    · cases h
    · exact h
  unfold flaL at hp
  obtain ⟨ha, hd⟩ := List.mem_filter.1 hp
  obtain ⟨hm, c, hc⟩ := ann_mem l [] p ha
  have h1 := clpE_all l 0 h0 p.1 hm
  obtain ⟨z1, z2, -⟩ := oneE_zero h1
  have hd' : drw p.1 = true := by simpa using hd
  refine ⟨⟨hd', ?_, z1, by rw [hc]; exact shR_may _ _, oneE_text h1, fun he => by rw [hc] at he ⊢; exact shR_sub he⟩, hm⟩
  unfold drw at hd'
  simp at hd'
  omega

end Go.Proofs.YtapachlhdgehjaaGreatDoor

/-
  Package cells: draw.
-/
namespace Go.Proofs.YtapachlhdgehjaaGreatDoor
open Go.RowKit

def TbD (W : World) : Prop := Tabs W ∧ (∃ mm, W.cell? ⟨6, 0, none⟩ = some (.int .i64 mm)) ∧ ∀ i j : Nat, i < 4 → j < 4 → W.cell? ⟨1, i * 4 + j, none⟩ = some (.int .i32 (([0, 9474, 9474, 9474, 9472, 9484, 9488, 9474, 9472, 9492, 9496, 9474, 9472, 9472, 9472, 9633] : List Int).getD (i * 4 + j) 0))

set_option maxRecDepth 20000 in
set_option maxHeartbeats 4000000 in
theorem draw_any (FR : LFrm) (lo g n cap a b x y m hh : Nat) (L : List Ce) (s : St) (w : World) (h : ScM lo w g n cap L) (hs : szB a b = true) (hN : (n : Int) = a * b) (hm : 0 < m) (hx : x + m ≤ a) (hy : y + hh ≤ b) (hc : s.c.ok ∧ s.b.ok) (hL : WfC L) (hr : zMa s.r = true) (hrx : s.r.x ≤ x) (hry : s.r.y ≤ y) (hrw : (x : Int) + m ≤ s.r.x + s.r.w) (hrh : (y : Int) + hh ≤ s.r.y + s.r.h) (hk : s.k = 1 ∨ s.k = 2 ∨ s.k = 3) (ht : s.t.size ≤ 100000) (HT : ∀ W, w.grownBy W (some g) → TbD W) :
    Calls Tryz.prog 31 #[.agg #[.int .i64 (a : Nat), .int .i64 (b : Nat), .slice (some ⟨g, 0, none⟩) n cap], (Value.agg #[.int .u8 s.k, .int .i64 s.r.x, .int .i64 s.r.y, .int .i64 s.r.w, .int .i64 s.r.h, .int .u8 s.c.r, .int .u8 s.c.g, .int .u8 s.c.b, .int .u8 s.c.a, .int .u8 s.b.r, .int .u8 s.b.g, .int .u8 s.b.b, .int .u8 s.b.a, .string s.t, .int .i64 s.n]), .agg #[.int .i64 (x : Nat), .int .i64 (y : Nat), .int .i64 (m : Nat), .int .i64 (hh : Nat)]] w fun e w' => e = .returned (.tuple #[]) ∧ ScM lo w' g n cap (updQ L a x y m hh (madK s a)) ∧ w.grownBy w' (some g) := by
  have hbd : -16384 ≤ s.r.x ∧ -16384 ≤ s.r.y := by
    obtain ⟨f1, f2, f3, f4, f5, f6, f7, f8⟩ := may_bd hr
    omega
  obtain ⟨V, hV⟩ : ∃ V, V = ((w.alloc (.cells #[.int .i64 (a : Nat), .int .i64 (b : Nat), .slice (some ⟨g, 0, none⟩) n cap] 26)).alloc (.cells (#[.int .u8 s.k, .int .i64 s.r.x, .int .i64 s.r.y, .int .i64 s.r.w, .int .i64 s.r.h, .int .u8 s.c.r, .int .u8 s.c.g, .int .u8 s.c.b, .int .u8 s.c.a, .int .u8 s.b.r, .int .u8 s.b.g, .int .u8 s.b.b, .int .u8 s.b.a, .string s.t, .int .i64 s.n]) 55)).alloc (.cells #[.int .i64 (x : Nat), .int .i64 (y : Nat), .int .i64 (m : Nat), .int .i64 (hh : Nat)] 52) := ⟨_, rfl⟩
  have hb : Below w.heap.size w V := by rw [hV]; exact (((Below.refl _ w).alloc (Nat.le_refl _) _).alloc (by simp) _).alloc (by simp; omega) _
  have hgr : w.grownBy V (some g) := ⟨hb.os, hb.tape, hb.output, hb.size, fun b hb' _ => hb.block b hb'⟩
  have hSc := h.below hb
  have HD : Hid (∀ f, (f = 61 ∧ s.k = 1) ∨ (f = 62 ∧ s.k = 2) ∨ (f = 63 ∧ s.k = 3) → Calls Tryz.prog f #[.agg #[.int .i64 (a : Nat), .int .i64 (b : Nat), .slice (some ⟨g, 0, none⟩) n cap], (Value.agg #[.int .u8 s.k, .int .i64 s.r.x, .int .i64 s.r.y, .int .i64 s.r.w, .int .i64 s.r.h, .int .u8 s.c.r, .int .u8 s.c.g, .int .u8 s.c.b, .int .u8 s.c.a, .int .u8 s.b.r, .int .u8 s.b.g, .int .u8 s.b.b, .int .u8 s.b.a, .string s.t, .int .i64 s.n]), .agg #[.int .i64 (x : Nat), .int .i64 (y : Nat), .int .i64 (m : Nat), .int .i64 (hh : Nat)]] V fun e w' => e = .returned (.tuple #[]) ∧ ScM lo w' g n cap (updQ L a x y m hh (madK s a)) ∧ w.grownBy w' (some g)) := fun f hf => by
    rcases hf with ⟨rfl, k⟩ | ⟨rfl, k⟩ | ⟨rfl, k⟩
    · refine (fillD_any lo g n cap a b x y m hh L s V hSc hs hN hm hx hy hc.1 hL).mono ?_
      rintro e w' ⟨rfl, q1, q2⟩
      exact ⟨rfl, by rw [madK_fill k]; exact q1, ob_transC hgr q2⟩
    · refine (FR lo g n cap a b x y m hh L s V hSc hs hN hm hx hy hc.1 hL hr hrx hry hrw hrh (fun W hW => (HT W (ob_transC hgr hW)).2.2)).mono ?_
      rintro e w' ⟨rfl, q1, q2⟩
      exact ⟨rfl, by rw [madK_frame k]; exact q1, ob_transC hgr q2⟩
    · refine (writeD_any lo g n cap a b x y m hh L s V hSc hs hN hm hx hy hc hL ⟨hbd.1, hrx⟩ ⟨hbd.2, hry⟩ ht (fun W hW => ⟨(HT W (ob_transC hgr hW)).1, (HT W (ob_transC hgr hW)).2.1⟩)).mono ?_
      rintro e w' ⟨rfl, q1, q2⟩
      exact ⟨rfl, by rw [madK_write k]; exact q1, ob_transC hgr q2⟩
  rw [hV] at HD
  clear hSc hgr hb hV h hc hL hr HT FR hbd
  rcases hk with k | k | k
  · have h1 : (s.k == 1) = true := by simp [k]
    have HC := HD.out _ (.inl ⟨rfl, k⟩)
    clear k HD
    go_enter Tryz.func31, Tryz.ntmps31
    go_wp2_with fail
    refine HC.mono ?_
    rintro e w' ⟨rfl, q1, q2⟩
    have HQ : Hid (ScM lo w' g n cap (updQ L a x y m hh (madK s a)) ∧ w.grownBy w' (some g)) := ⟨q1, q2⟩
    clear q1 q2 HC
    go_wp2
    go_end0
    exact ⟨rfl, HQ.out⟩
  · have h1 : (s.k == 1) = false := by simp [k]
    have h2 : (s.k == 2) = true := by simp [k]
    have HC := HD.out _ (.inr (.inl ⟨rfl, k⟩))
    clear k HD
    go_enter Tryz.func31, Tryz.ntmps31
    go_wp2_with fail
    refine HC.mono ?_
    rintro e w' ⟨rfl, q1, q2⟩
    have HQ : Hid (ScM lo w' g n cap (updQ L a x y m hh (madK s a)) ∧ w.grownBy w' (some g)) := ⟨q1, q2⟩
    clear q1 q2 HC
    go_wp2
    go_end0
    exact ⟨rfl, HQ.out⟩
  · have h1 : (s.k == 1) = false := by simp [k]
    have h2 : (s.k == 2) = false := by simp [k]
    have h3 : (s.k == 3) = true := by simp [k]
    have HC := HD.out _ (.inr (.inr ⟨rfl, k⟩))
    clear k HD
    go_enter Tryz.func31, Tryz.ntmps31
    go_wp2_with fail
    refine HC.mono ?_
    rintro e w' ⟨rfl, q1, q2⟩
    have HQ : Hid (ScM lo w' g n cap (updQ L a x y m hh (madK s a)) ∧ w.grownBy w' (some g)) := ⟨q1, q2⟩
    clear q1 q2 HC
    go_wp2
    go_end0
    exact ⟨rfl, HQ.out⟩

end Go.Proofs.YtapachlhdgehjaaGreatDoor

/-
  Package cells: edges, At, copied.
-/
namespace Go.Proofs.YtapachlhdgehjaaGreatDoor
open Go.RowKit

def edgN (k n : Int) : Int := (if k = 0 then 1 else 0) + (if k = n - 1 then 2 else 0)
theorem edgN_bd (k n : Int) : 0 ≤ edgN k n ∧ edgN k n ≤ 3 := by unfold edgN; split <;> split <;> omega
theorem edgesC_any (k n : Int) (w : World) (hn : -100000 ≤ n ∧ n ≤ 100000) : Calls Tryz.prog 128 #[.int .i64 k, .int .i64 n] w fun e w' => e = .returned (.int .i64 (edgN k n)) ∧ w' = w := by
  by_cases h1 : k = 0
  · by_cases h2 : k = n - 1
    · have e : edgN k n = 3 := by unfold edgN; rw [if_pos h1, if_pos h2]; rfl
      have h3 : (k == 0) = true := by simpa using h1
      have h4 : (k == n - 1) = true := by simpa using h2
      have He : Hid (edgN k n = 3) := e
      clear e h1 h2
      go_enter Tryz.func128, Tryz.ntmps128
      go_wp2
      go_ret
      exact ⟨by rw [He.out]; rfl, rfl⟩
    · have e : edgN k n = 1 := by unfold edgN; rw [if_pos h1, if_neg h2]; rfl
      have h3 : (k == 0) = true := by simpa using h1
      have h4 : (k == n - 1) = false := by simpa using h2
      have He : Hid (edgN k n = 1) := e
      clear e h1 h2
      go_enter Tryz.func128, Tryz.ntmps128
      go_wp2
      go_ret
      exact ⟨by rw [He.out]; rfl, rfl⟩
  · by_cases h2 : k = n - 1
    · have e : edgN k n = 2 := by unfold edgN; rw [if_neg h1, if_pos h2]; rfl
      have h3 : (k == 0) = false := by simpa using h1
      have h4 : (k == n - 1) = true := by simpa using h2
      have He : Hid (edgN k n = 2) := e
      clear e h1 h2
      go_enter Tryz.func128, Tryz.ntmps128
      go_wp2
      go_ret
      exact ⟨by rw [He.out]; rfl, rfl⟩
    · have e : edgN k n = 0 := by unfold edgN; rw [if_neg h1, if_neg h2]; rfl
      have h3 : (k == 0) = false := by simpa using h1
      have h4 : (k == n - 1) = false := by simpa using h2
      have He : Hid (edgN k n = 0) := e
      clear e h1 h2
      go_enter Tryz.func128, Tryz.ntmps128
      go_wp2
      go_ret
      exact ⟨by rw [He.out]; rfl, rfl⟩

theorem Bk.put3S {W : World} {b : Nat} {a0 a1 a2 v0 v1 v2 : Value} {t : TypeId} (h : Bk W b #[a0, a1, a2] t) : Bk (((W.setCell ⟨b, 0, none⟩ v0).setCell ⟨b, 1, none⟩ v1).setCell ⟨b, 2, none⟩ v2) b #[v0, v1, v2] t := by
  have h0 : Bk (W.setCell ⟨b, 0, none⟩ v0) b #[v0, a1, a2] t := h.put 0 v0
  have h1 : Bk ((W.setCell ⟨b, 0, none⟩ v0).setCell ⟨b, 1, none⟩ v1) b #[v0, v1, a2] t := h0.put 1 v1
  exact h1.put 2 v2
theorem OwC.set {lo : Nat} {w : World} {u : Value} {l : List Ce} (h : OwC lo w u l) (p : Addr) (v : Value) (hp : p.block < lo) : OwC lo (w.setCell p v) u l := by
  refine ⟨h.1, ?_⟩
  rcases h.2 with ⟨h1, h2⟩ | ⟨g', cap', cur, h1, hb, hc, h2⟩
  · exact .inl ⟨h1, h2⟩
  · exact .inr ⟨g', cap', cur, h1, hb, (Below.heap_setCell _ _ _ g' (by omega)).trans hc, h2⟩
set_option maxRecDepth 10000 in
set_option maxHeartbeats 2000000 in
theorem copied_any (a b : Int) (l : List Ce) (v : Value) (w : World) (hv : LsC w v l) (hn : NoNil v) (hl : l.length ≤ 1000000) : Calls Tryz.prog 28 #[.agg #[.int .i64 a, .int .i64 b, v]] w fun e w' => ∃ u, e = .returned (.agg #[.int .i64 a, .int .i64 b, u]) ∧ Hid (OwC w.heap.size w' u l ∧ Below w.heap.size w w') := by
  obtain ⟨oa, cap, rfl, hcap, hg⟩ := id hv
  have HC : Hid (∀ W, Below w.heap.size w W → Calls Tryz.prog 57 #[.slice oa l.length cap] W fun e w' => ∃ u, e = .returned u ∧ OwC W.heap.size w' u l ∧ Below W.heap.size W w') := fun W h => cloneC_any l _ W (hv.below h) hn hl
  have HB : Hid (Bk ((w.alloc (.cells #[.int .i64 a, .int .i64 b, .slice oa l.length cap] 26)).alloc (.cells #[.int .i64 0, .int .i64 0, .slice none 0 0] 26)) w.heap.size #[.int .i64 a, .int .i64 b, .slice oa l.length cap] 26 ∧ Bk ((w.alloc (.cells #[.int .i64 a, .int .i64 b, .slice oa l.length cap] 26)).alloc (.cells #[.int .i64 0, .int .i64 0, .slice none 0 0] 26)) (w.heap.size + 1) #[.int .i64 0, .int .i64 0, .slice none 0 0] 26 ∧ Below w.heap.size w ((w.alloc (.cells #[.int .i64 a, .int .i64 b, .slice oa l.length cap] 26)).alloc (.cells #[.int .i64 0, .int .i64 0, .slice none 0 0] 26))) := by
    have k1 := Bk.new w #[.int .i64 a, .int .i64 b, .slice oa l.length cap] 26
    have k2 := Bk.new (w.alloc (.cells #[.int .i64 a, .int .i64 b, .slice oa l.length cap] 26)) #[.int .i64 0, .int .i64 0, .slice none 0 0] 26
    rw [World.size_alloc] at k2
    exact ⟨k1.below ((Below.refl _ _).alloc (Nat.le_refl _) _), k2, ((Below.refl _ w).alloc (Nat.le_refl _) _).alloc (by simp) _⟩
  clear hg hv hn
  go_enter Tryz.func28, Tryz.ntmps28
  go_wp2_with fail
  generalize (w.alloc (.cells #[.int .i64 a, .int .i64 b, .slice oa l.length cap] 26)).alloc (.cells #[.int .i64 0, .int .i64 0, .slice none 0 0] 26) = w1 at *
  obtain ⟨a0, a1, a2⟩ := Bk.at3S HB.out.1
  have HM : Hid (∀ W, Below w1.heap.size w1 W → (W.cell? ⟨w.heap.size, 0, none⟩ = some (.int .i64 a) ∧ W.cell? ⟨w.heap.size, 1, none⟩ = some (.int .i64 b) ∧ W.cell? ⟨w.heap.size, 2, none⟩ = some (.slice oa l.length cap)) ∧ Bk W (w.heap.size + 1) #[.int .i64 0, .int .i64 0, .slice none 0 0] 26 ∧ Below w.heap.size w W) := fun W h => ⟨Bk.at3S (HB.out.1.below h), HB.out.2.1.below h, HB.out.2.2.trans (h.mono HB.out.2.2.size)⟩
  go_region_with (go_at_call 57; refine (HC.out _ (HB.out.2.2.drew)).mono ?_; rintro e w2 ⟨u, rfl, hu, hb⟩; obtain ⟨⟨k0, k1, k2⟩, k3, k4⟩ := HM.out w2 (((Below.refl w1.heap.size w1).drew).trans hb); obtain ⟨z0, z1, z2⟩ := Bk.at3S k3; have y0 := k3.frozen 0; have y1 := k3.frozen 1; have y2 := k3.frozen 2; have HU : Hid (OwC w1.heap.size w2 u l ∧ Below w.heap.size w w2 ∧ Bk w2 (w.heap.size + 1) #[.int .i64 0, .int .i64 0, .slice none 0 0] 26) := ⟨hu, k4, k3⟩; obtain ⟨ou, cu, eu, hcu, -⟩ := row_val hu; subst eu; clear hu hb k3 k4)
  all_goals
    obtain ⟨W3, hW3⟩ : ∃ W3, W3 = ((w2.setCell ⟨w.heap.size + 1, 0, none⟩ (.int .i64 a)).setCell ⟨w.heap.size + 1, 1, none⟩ (.int .i64 b)).setCell ⟨w.heap.size + 1, 2, none⟩ (.slice ou l.length cu) := ⟨_, rfl⟩
    have H3 : Hid (OwC w.heap.size W3 (.slice ou l.length cu) l ∧ Below w.heap.size w W3 ∧ Bk W3 (w.heap.size + 1) #[.int .i64 a, .int .i64 b, .slice ou l.length cu] 26) := by
      obtain ⟨u1, u2, u3⟩ := HU.out
      have hl1 := HB.out.2.1.lt
      rw [hW3]
      exact ⟨row_weaken (OwC.set (OwC.set (OwC.set u1 _ _ hl1) _ _ hl1) _ _ hl1) HB.out.2.2.size, ((u2.setCell (p := ⟨w.heap.size + 1, 0, none⟩) (by simp) _).setCell (p := ⟨w.heap.size + 1, 1, none⟩) (by simp) _).setCell (p := ⟨w.heap.size + 1, 2, none⟩) (by simp) _, u3.put3S⟩
    rw [← hW3]
    clear hW3 HU k0 k1 k2 z0 z1 z2 y0 y1 y2 HM HB HC a0 a1 a2
    obtain ⟨k0, k1, k2⟩ := Bk.at3S H3.out.2.2
    go_wp2
    exact bodyPost_ret (v := .agg #[.int .i64 a, .int .i64 b, .slice ou l.length cu]) (by simp [results, Tryz.results28, go_sem, k0, k1, k2]) rfl ⟨_, rfl, H3.out.1, H3.out.2.1⟩

end Go.Proofs.YtapachlhdgehjaaGreatDoor
