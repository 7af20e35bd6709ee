/-
  Texts of this claim, one behind the other: what each is about stands ahead of it.
-/
import Derived.Test.YtbghjmkgicdnoaaK1
import Derived.Test.YtbghjmkgicdnoaaK16
import Derived.Test.YtbghjmkgicdnoaaK7
import Derived.Test.YtbghjmkgicdnoaaK13
import Derived.Test.YtbghjmkgicdnoaaK14
/-
  How many rectangles a form has: at most n * n, if the lists have n together.
-/
namespace Go.Proofs.Ytbghjmkgicdnoaa

theorem len_le : ∀ (l m : List Int), l.Nodup → (∀ x ∈ l, x ∈ m) → l.length ≤ m.length
  | [], _, _, _ => Nat.zero_le _
  | x :: l, m, hn, hm => by
    obtain ⟨h1, h2⟩ := List.nodup_cons.1 hn
    have hx := hm x (List.mem_cons_self ..)
    have h := len_le l (m.erase x) h2 fun y hy => (List.mem_erase_of_ne (fun e => h1 (by rw [← e]; exact hy))).2 (hm y (List.mem_cons_of_mem _ hy))
    rw [List.length_erase_of_mem hx] at h
    have := List.length_pos_of_mem hx
    rw [List.length_cons]
    omega

/-- The sum of a number for each of a list. -/
def sumN {α : Type} (f : α → Nat) : List α → Nat
  | [] => 0
  | x :: l => f x + sumN f l
theorem sumN_le {α : Type} {f g : α → Nat} : ∀ {l : List α}, (∀ x ∈ l, f x ≤ g x) → sumN f l ≤ sumN g l
  | [], _ => Nat.le_refl _
  | x :: _, h => Nat.add_le_add (h x (List.mem_cons_self ..)) (sumN_le fun y hy => h y (List.mem_cons_of_mem _ hy))
theorem sumN_add {α : Type} (f g : α → Nat) : ∀ l : List α, sumN (fun x => f x + g x) l = sumN f l + sumN g l
  | [] => rfl
  | x :: l => by rw [sumN, sumN, sumN, sumN_add f g l]; omega
theorem sumN_zero {α : Type} : ∀ l : List α, sumN (fun _ => 0) l = 0
  | [] => rfl
  | _ :: l => by rw [sumN, sumN_zero l]
theorem sumN_swap {α β : Type} (f : α → β → Nat) (m : List β) : ∀ l : List α, sumN (fun x => sumN (f x) m) l = sumN (fun y => sumN (fun x => f x y) l) m
  | [] => by rw [sumN]; exact (sumN_zero m).symm
  | x :: l => by
    rw [sumN, sumN_swap f m l, ← sumN_add]
    rfl
theorem sumN_filter {α : Type} (p : α → Bool) : ∀ l : List α, (l.filter p).length = sumN (fun x => if p x = true then 1 else 0) l
  | [] => rfl
  | x :: l => by
    rw [List.filter_cons, sumN, ← sumN_filter p l]
    by_cases h : p x = true
    · rw [if_pos h, if_pos h, List.length_cons]; omega
    · rw [if_neg h, if_neg h]; omega
theorem sumN_const {α : Type} (c : Nat) : ∀ l : List α, sumN (fun _ => c) l = c * l.length
  | [] => rfl
  | _ :: l => by rw [sumN, sumN_const c l, List.length_cons, Nat.mul_succ]; omega
/-- Pairs: each two of a list count two at most, none for itself. -/
theorem pairs_le {α : Type} (f : α → α → Nat) (h0 : ∀ x, f x x = 0) (h2 : ∀ x y, f x y + f y x ≤ 2) : ∀ l : List α, sumN (fun x => 1 + sumN (f x) l) l ≤ l.length * l.length
  | [] => Nat.le_refl _
  | x :: l => by
    have ih := pairs_le f h0 h2 l
    have e1 : sumN (fun y => 1 + sumN (f y) (x :: l)) l = sumN (fun y => f y x) l + sumN (fun y => 1 + sumN (f y) l) l := by
      rw [← sumN_add]
      congr 1
      funext y
      rw [sumN]
      omega
    have e2 : sumN (fun y => f x y) l + sumN (fun y => f y x) l ≤ 2 * l.length := by
      rw [← sumN_add, ← sumN_const]
      exact sumN_le fun y _ => h2 x y
    have e3 : sumN (fun y => f x y) l = sumN (f x) l := rfl
    rw [e3] at e2
    rw [sumN, e1]
    have e4 : sumN (f x) (x :: l) = sumN (f x) l := by rw [sumN, h0, Nat.zero_add]
    rw [e4, List.length_cons, Nat.succ_mul, Nat.mul_succ]
    omega

/-- Beginnings of spans are all different. -/
theorem can_nodup : ∀ {a : Int} {l : List Sp}, Can a l → (l.map (·.1)).Nodup
  | _, [], _ => List.nodup_nil
  | a, s :: t, h => by
    rw [List.map_cons, List.nodup_cons]
    refine ⟨fun hm => ?_, can_nodup h.2.2⟩
    obtain ⟨q, hq, e⟩ := List.mem_map.1 hm
    have := (Can.ge h.2.2 q hq).1
    have := h.2.1
    omega
theorem can_start : ∀ {a : Int} {l : List Sp}, Can a l → ∀ s ∈ l, inS l s.1 ∧ ¬ inS l (s.1 - 1)
  | _, [], _, _, hs => by cases hs
  | a, q :: t, h, s, hs => by
    rcases List.mem_cons.1 hs with rfl | hs
    · refine ⟨(inS_cons _ _ _).2 (.inl ⟨Int.le_refl _, h.2.1⟩), fun hx => ?_⟩
      rcases (inS_cons _ _ _).1 hx with ⟨h1, _⟩ | h1
      · omega
      · have := Can.low h.2.2 h1
        have := h.2.1
        omega
    · obtain ⟨h1, h2⟩ := can_start h.2.2 s hs
      refine ⟨(inS_cons _ _ _).2 (.inr h1), fun hx => ?_⟩
      rcases (inS_cons _ _ _).1 hx with ⟨_, h3⟩ | h3
      · have := (Can.ge h.2.2 s hs).1
        omega
      · exact h2 h3

def actB (y : Int) (r : Rc) : Bool := keepE r && (decide (r.y ≤ y) && decide (y < r.y + r.h))
theorem act_iff (y : Int) (r : Rc) : actB y r = true ↔ keepE r = true ∧ r.y ≤ y ∧ y < r.y + r.h := by simp [actB]
theorem cov_begin {l : List Rc} {x y : Int} (h : cov l x y) (h2 : ¬ cov l (x - 1) y) : ∃ r ∈ l, actB y r = true ∧ r.x = x := by
  obtain ⟨r, hr, hk, p1, p2, p3, p4⟩ := h
  refine ⟨r, hr, (act_iff _ _).2 ⟨hk, p3, p4⟩, ?_⟩
  by_cases e : r.x = x
  · exact e
  · exact absurd ⟨r, hr, hk, by omega, by omega, p3, p4⟩ h2
theorem cov_end {l : List Rc} {x y : Int} (h : cov l (x - 1) y) (h2 : ¬ cov l x y) : ∃ r ∈ l, actB y r = true ∧ r.x + r.w = x := by
  obtain ⟨r, hr, hk, p1, p2, p3, p4⟩ := h
  refine ⟨r, hr, (act_iff _ _).2 ⟨hk, p3, p4⟩, ?_⟩
  by_cases e : r.x + r.w = x
  · exact e
  · exact absurd ⟨r, hr, hk, by omega, by omega, p3, p4⟩ h2
/-- Spans of a row: not more than rectangles that reach it. -/
theorem row_count (k : Bool) (a b : List Rc) (y : Int) : (rowW k a b y).length ≤ ((a ++ b).filter (actB y)).length := by
  obtain ⟨h1, h2⟩ := rowW_can k a b y
  have h := len_le ((rowW k a b y).map (·.1)) (((a.filter (actB y)).map (·.x)) ++ ((b.filter (actB y)).map fun r => if k = true then r.x else r.x + r.w)) (can_nodup h1) fun x hx => by
    obtain ⟨s, hs, rfl⟩ := List.mem_map.1 hx
    obtain ⟨q1, q2⟩ := can_start h1 s hs
    rw [h2] at q1 q2
    by_cases hc : cov a (s.1 - 1) y
    · refine List.mem_append.2 (.inr ?_)
      cases k with
      | true =>
        obtain ⟨r, hr, ha, e⟩ := cov_begin (show cov b s.1 y from q1.2) (fun hb => q2 ⟨hc, hb⟩)
        exact List.mem_map.2 ⟨r, List.mem_filter.2 ⟨hr, ha⟩, by rw [if_pos rfl]; exact e⟩
      | false =>
        have q3 : ¬ cov b s.1 y := by simpa using q1.2
        have q4 : cov b (s.1 - 1) y := by
          refine Classical.byContradiction fun hn => q2 ⟨hc, ?_⟩
          simpa using hn
        obtain ⟨r, hr, ha, e⟩ := cov_end q4 q3
        exact List.mem_map.2 ⟨r, List.mem_filter.2 ⟨hr, ha⟩, by rw [if_neg (by decide)]; exact e⟩
    · obtain ⟨r, hr, ha, e⟩ := cov_begin q1.1 hc
      exact List.mem_append.2 (.inl (List.mem_map.2 ⟨r, List.mem_filter.2 ⟨hr, ha⟩, e⟩))
  rw [List.length_map, List.length_append, List.length_map, List.length_map] at h
  rw [List.filter_append, List.length_append]
  exact h

theorem bandS_top {sp : List Sp} {t b : Int} : ∀ {l : List Bd}, ∀ d ∈ bandS sp t b l, d.1 = t ∨ d.1 ∈ l.map (·.1)
  | [], d, hd => by
    rw [bandS] at hd
    split at hd
    · cases hd
    · rw [List.mem_singleton] at hd; exact .inl (by rw [hd])
  | e :: l, d, hd => by
    rw [bandS] at hd
    split at hd
    · exact .inr (List.mem_map.2 ⟨d, hd, rfl⟩)
    · split at hd
      · rcases List.mem_cons.1 hd with rfl | hd
        · exact .inr (by simp)
        · exact .inr (List.mem_map.2 ⟨d, List.mem_cons_of_mem _ hd, rfl⟩)
      · rcases List.mem_cons.1 hd with rfl | hd
        · exact .inl rfl
        · exact .inr (List.mem_map.2 ⟨d, hd, rfl⟩)
theorem bands_top (row : Int → List Sp) : ∀ (ys : List Int) (acc : List Bd), ∀ d ∈ bandsF row ys acc, d.1 ∈ ys ∨ d.1 ∈ acc.map (·.1)
  | [], _, d, hd => .inr (List.mem_map.2 ⟨d, hd, rfl⟩)
  | [_], _, d, hd => .inr (List.mem_map.2 ⟨d, hd, rfl⟩)
  | t :: b :: rest, acc, d, hd => by
    rw [bandsF] at hd
    rcases bands_top row (b :: rest) _ d hd with h | h
    · exact .inl (List.mem_cons_of_mem _ h)
    · obtain ⟨e, he, h⟩ := List.mem_map.1 h
      rcases bandS_top e he with h2 | h2
      · exact .inl (by rw [← h, h2]; exact List.mem_cons_self ..)
      · exact .inr (by rw [← h]; exact h2)
theorem ban_low : ∀ {z : Int} {l : List Bd}, BanR z l → ∀ d ∈ l, d.1 < z
  | _, [], _, _, hd => by cases hd
  | z, e :: l, h, d, hd => by
    obtain ⟨h1, h2, _, _, h5⟩ := h
    rcases List.mem_cons.1 hd with rfl | hd
    · omega
    · have := ban_low h5 d hd
      omega
theorem ban_nodup : ∀ {z : Int} {l : List Bd}, BanR z l → (l.map (·.1)).Nodup
  | _, [], _ => List.nodup_nil
  | z, e :: l, h => by
    obtain ⟨h1, h2, _, _, h5⟩ := h
    rw [List.map_cons, List.nodup_cons]
    refine ⟨fun hm => ?_, ban_nodup h5⟩
    obtain ⟨q, hq, e⟩ := List.mem_map.1 hm
    have := ban_low h5 q hq
    omega
theorem flatB_num (l : List Bd) : (flatB l).length = sumN (fun d => d.2.2.length) l := by
  unfold flatB
  induction l with
  | nil => rfl
  | cons d l ih =>
    rw [List.reverse_cons, List.map_append, List.flatten_append, List.length_append, ih, sumN]
    simp [rcts]
    omega

/-- How an edge of s lies inside of r. -/
def insd (r s : Rc) : Nat := (if r.y < s.y ∧ s.y < r.y + r.h then 1 else 0) + (if r.y < s.y + s.h ∧ s.y + s.h < r.y + r.h then 1 else 0)
theorem insd_self (r : Rc) : insd r r = 0 := by unfold insd; rw [if_neg (by omega), if_neg (by omega)]
theorem insd_two (r s : Rc) : insd r s + insd s r ≤ 2 := by
  unfold insd
  split <;> split <;> split <;> split <;> omega

theorem in_count (D : List Bd) (M : List Rc) (hn : (D.map (·.1)).Nodup) (hD : ∀ d ∈ D, isEdge M d.1) (r : Rc) : sumN (fun d : Bd => if actB d.1 r = true then 1 else 0) D ≤ 1 + sumN (insd r) M := by
  rw [← sumN_filter (fun d : Bd => actB d.1 r) D]
  have h := len_le ((D.filter fun d => actB d.1 r).map (·.1)) (r.y :: ((M.filter fun s => decide (r.y < s.y ∧ s.y < r.y + r.h)).map (·.y) ++ (M.filter fun s => decide (r.y < s.y + s.h ∧ s.y + s.h < r.y + r.h)).map fun s => s.y + s.h)) (List.Pairwise.sublist (List.Sublist.map _ List.filter_sublist) hn) fun x hx => by
    obtain ⟨d, hd, rfl⟩ := List.mem_map.1 hx
    obtain ⟨hd1, hd2⟩ := List.mem_filter.1 hd
    obtain ⟨_, q1, q2⟩ := (act_iff _ _).1 hd2
    by_cases e : d.1 = r.y
    · exact List.mem_cons.2 (.inl e)
    · refine List.mem_cons.2 (.inr ?_)
      obtain ⟨s, hs, _, e2 | e2⟩ := hD d hd1
      · exact List.mem_append.2 (.inl (List.mem_map.2 ⟨s, List.mem_filter.2 ⟨hs, decide_eq_true ⟨by omega, by omega⟩⟩, e2.symm⟩))
      · exact List.mem_append.2 (.inr (List.mem_map.2 ⟨s, List.mem_filter.2 ⟨hs, decide_eq_true ⟨by omega, by omega⟩⟩, e2.symm⟩))
  rw [List.length_map, List.length_cons, List.length_append, List.length_map, List.length_map] at h
  rw [sumN_filter (fun s : Rc => decide (r.y < s.y ∧ s.y < r.y + r.h)), sumN_filter (fun s : Rc => decide (r.y < s.y + s.h ∧ s.y + s.h < r.y + r.h)), ← sumN_add] at h
  have e : (fun x : Rc => (if decide (r.y < x.y ∧ x.y < r.y + r.h) = true then 1 else 0) + (if decide (r.y < x.y + x.h ∧ x.y + x.h < r.y + r.h) = true then 1 else 0)) = insd r := by
    funext s
    unfold insd
    simp only [decide_eq_true_eq]
  rw [e] at h
  omega
/-- The form of what two lists make has at most as many rectangles as the square of their number. -/
theorem form_count (k : Bool) (a b : List Rc) : (formF k a b).length ≤ (a.length + b.length) * (a.length + b.length) := by
  obtain ⟨⟨z, h1⟩, h2⟩ := bandsR_ban k a b
  unfold formF
  rw [flatB_num]
  have s1 : sumN (fun d : Bd => d.2.2.length) (bandsR k a b) ≤ sumN (fun d : Bd => sumN (fun r => if actB d.1 r = true then 1 else 0) (a ++ b)) (bandsR k a b) := by
    refine sumN_le fun d hd => ?_
    have hf := fAt_mem h1 d hd d.1 (Int.le_refl _) (ban_mem h1 d hd).1
    rw [h2] at hf
    rw [← hf, ← sumN_filter]
    exact row_count k a b d.1
  rw [sumN_swap (fun (d : Bd) r => if actB d.1 r = true then 1 else 0)] at s1
  have s2 : sumN (fun r => sumN (fun d : Bd => if actB d.1 r = true then 1 else 0) (bandsR k a b)) (a ++ b) ≤ sumN (fun r => 1 + sumN (insd r) (a ++ b)) (a ++ b) := by
    refine sumN_le fun r _ => in_count _ _ (ban_nodup h1) (fun d hd => ?_) r
    unfold bandsR at hd
    rcases bands_top _ _ _ d hd with h | h
    · exact ((edges_inc (a ++ b)).2 _).1 h
    · simp at h
  have s3 := pairs_le insd insd_self insd_two (a ++ b)
  rw [List.length_append] at s3
  omega

end Go.Proofs.Ytbghjmkgicdnoaa

/-
  The document's forms, band by band: plain lists.
-/
namespace Go.Proofs.Ytbghjmkgicdnoaa

theorem bandsF_step (row : Int → List Sp) {ys : List Int} {k : Nat} (h : k + 1 < ys.length) (acc : List Bd) : bandsF row (ys.drop k) acc = bandsF row (ys.drop (k + 1)) (bandS (row ys[k]) ys[k] ys[k + 1] acc) := by
  rw [List.drop_eq_getElem_cons (show k < ys.length by omega), List.drop_eq_getElem_cons h, bandsF]
theorem bandsF_done (row : Int → List Sp) {ys : List Int} {k : Nat} (h : ¬ k + 1 < ys.length) (acc : List Bd) : bandsF row (ys.drop k) acc = acc := by
  have : (ys.drop k).length ≤ 1 := by rw [List.length_drop]; omega
  match hx : ys.drop k, this with
  | [], _ => rfl
  | [_], _ => rfl
  | _ :: _ :: _, h => simp at h
theorem lastS_new {sp : List Sp} {t b : Int} {acc : List Bd} (hb : BanR t acc) (ht : t < b) : lastS (bandS sp t b acc) b = sp := by
  by_cases h0 : sp = []
  · subst h0
    rw [bandS_none]
    exact lastS_high hb ht
  · by_cases c : sp = lastS acc t
    · obtain ⟨d, ds, _, _, _, e⟩ := bandS_alike (b := b) c h0
      rw [e, lastS, if_pos rfl]
    · rw [bandS_other c h0, lastS, if_pos rfl]
theorem flatB_other {sp : List Sp} {t b : Int} {acc : List Bd} (h : sp ≠ lastS acc t) : flatB (bandS sp t b acc) = flatB acc ++ rcts (t, b, sp) := by
  by_cases h0 : sp = []
  · subst h0
    rw [bandS_none]
    simp [rcts]
  · rw [bandS_other h h0, flatB_cons]
def grw (z : Int) (r : Rc) : Rc := ⟨r.x, r.y, r.w, r.h + z⟩
/-- The last m rectangles grown. -/
def upd (L : List Rc) (m : Nat) (z : Int) : List Rc := L.take (L.length - m) ++ (L.drop (L.length - m)).map (grw z)
theorem upd_len (L : List Rc) (m : Nat) (z : Int) : (upd L m z).length = L.length := by
  unfold upd
  rw [List.length_append, List.length_map, ← List.length_append, List.take_append_drop]
theorem upd_zero (L : List Rc) (z : Int) : upd L 0 z = L := by
  unfold upd
  simp
theorem upd_step (L : List Rc) {m j : Nat} (z : Int) (hj : j + 1 + m = L.length) : upd L m z = L.take j ++ L[j]'(by omega) :: (L.drop (j + 1)).map (grw z) ∧ upd L (m + 1) z = L.take j ++ grw z (L[j]'(by omega)) :: (L.drop (j + 1)).map (grw z) := by
  unfold upd
  have e1 : L.length - m = j + 1 := by omega
  have e2 : L.length - (m + 1) = j := by omega
  rw [e1, e2]
  constructor
  · rw [← List.take_append_getElem (show j < L.length by omega), List.append_assoc]
    rfl
  · rw [List.drop_eq_getElem_cons (show j < L.length by omega)]
    rfl
theorem flatB_alike {sp : List Sp} {t b : Int} {acc : List Bd} (h : sp = lastS acc t) : flatB (bandS sp t b acc) = upd (flatB acc) sp.length (b - t) ∧ sp.length ≤ (flatB acc).length := by
  by_cases h0 : sp = []
  · subst h0
    rw [bandS_none]
    exact ⟨(upd_zero _ _).symm, Nat.zero_le _⟩
  · obtain ⟨d, ds, rfl, h1, h2, e⟩ := bandS_alike (b := b) h h0
    rw [e, flatB_cons, flatB_cons]
    have hl : (rcts d).length = sp.length := by rw [rcts_len, h2]
    refine ⟨?_, by rw [List.length_append, hl]; omega⟩
    unfold upd
    have e1 : (flatB ds ++ rcts d).length - sp.length = (flatB ds).length := by rw [List.length_append, hl]; omega
    rw [e1, List.take_left', List.drop_left']
    · congr 1
      unfold rcts
      rw [List.map_map, h2]
      refine List.map_congr_left fun s _ => ?_
      simp only [Function.comp, grw]
      congr 1
      omega
    · rfl
    · rfl
theorem flatB_made {sp : List Sp} {t b : Int} {acc : List Bd} : (flatB acc).length ≤ (flatB (bandS sp t b acc)).length := bandS_lenD sp t b acc
/-- The form, by the document's edges. -/
theorem form_doc {a b : List Rc} (ha : Mays a) (hb : Mays b) (what : Int) : formF (wK what) (wA what a b) (wB what b) = flatB (bandsF (rowW (wK what) (wA what a b) (wB what b)) (edTwo true 0 a b) []) := by
  unfold formF bandsR
  rw [edges_doc ha hb what 0]
theorem edge_bd {a b : List Rc} (ha : Mays a) (hb : Mays b) (n : Int) (h : n ∈ edTwo true 0 a b) : -16384 ≤ n ∧ n ≤ 16384 := by
  rcases (edTwo_mem true 0 a b n).1 h with ⟨r, hr, h⟩ | ⟨r, hr, h⟩
  · have b := may_iff.1 (ha r hr)
    unfold isEd at h
    simp at h
    omega
  · have b := may_iff.1 (hb r hr)
    unfold isEd at h
    simp at h
    omega
theorem row_bd (k : Bool) (a b : List Rc) (y : Int) : ∀ s ∈ rowW k a b y, -16384 ≤ s.1 ∧ s.1 < s.2 ∧ s.2 ≤ 16384 := by
  intro s hs
  obtain ⟨h1, h2⟩ := rowW_can k a b y
  obtain ⟨c1, c2⟩ := Can.ge h1 s hs
  have : inS (rowW k a b y) (s.2 - 1) := ⟨s, hs, by omega, by omega⟩
  have q := ((h2 _).1 this).1
  have := cov_in q
  exact ⟨c1, c2, by omega⟩
theorem row_len (what : Int) (a b : List Rc) (y : Int) : (rowW (wK what) (wA what a b) (wB what b) y).length ≤ a.length + b.length := by
  have h := row_count (wK what) (wA what a b) (wB what b) y
  have h2 := List.length_filter_le (actB y) (wA what a b ++ wB what b)
  have h3 : (wA what a b ++ wB what b).length = a.length + b.length := by
    unfold wA wB
    split <;> simp
  omega
/-- Bands within the places that there are. -/
def InB (l : List Bd) : Prop := ∀ d ∈ l, -16384 ≤ d.1 ∧ d.2.1 ≤ 16384 ∧ d.1 < d.2.1
theorem inB_step {sp : List Sp} {t b : Int} {acc : List Bd} (h : InB acc) (ht : -16384 ≤ t) (hb : b ≤ 16384) (htb : t < b) : InB (bandS sp t b acc) := by
  cases acc with
  | nil =>
    rw [bandS]
    split
    · exact h
    · intro d hd
      simp at hd
      subst hd
      exact ⟨ht, hb, htb⟩
  | cons e es =>
    rw [bandS]
    split
    · exact h
    · split
      · next c =>
        intro d hd
        rcases List.mem_cons.1 hd with rfl | hd
        · have := h e (by simp)
          exact ⟨this.1, hb, by simp; omega⟩
        · exact h d (by simp [hd])
      · intro d hd
        rcases List.mem_cons.1 hd with rfl | hd
        · exact ⟨ht, hb, htb⟩
        · exact h d hd
theorem inB_h {acc : List Bd} (h : InB acc) : ∀ r ∈ flatB acc, 0 ≤ r.h ∧ r.h ≤ 32768 := by
  intro r hr
  obtain ⟨d, hd, s, _, rfl⟩ := (flat_mem acc r).1 hr
  have := h d hd
  simp
  omega

end Go.Proofs.Ytbghjmkgicdnoaa

/-
  Contracts of the document's answer for layer 2: made.
-/
namespace Go.Proofs.Ytbghjmkgicdnoaa
open Go.RowKit

/-- What is known while the document makes a form. -/
structure MdI (w2 : World) (row : Int → List Sp) (ys : List Int) (k : Nat) (acc : List Bd) (v u : Value) (wr : World) : Prop where
  f : bandsF row (ys.drop k) acc = bandsF row ys []
  n : (flatB acc).length ≤ 1024
  i : InB acc
  b : ∀ (h : k < ys.length), BanR ys[k] acc
  o : wr.ownsRow w2.heap.size 27 4 v (flatB acc).length (flat (flatB acc))
  l : ∀ (h : k < ys.length), IL wr u (spI (lastS acc ys[k]))
  B : Below w2.heap.size w2 wr
theorem Bk_of_own {w : World} {base : Nat} {e : TypeId} {size n g cap : Nat} {xs : List Value} (h : w.ownsRow base e size (.slice (some ⟨g, 0, none⟩) n cap) n xs) : ∃ cs, Bk w g cs e := by
  obtain ⟨_, ⟨h, _⟩ | ⟨g', cap', cur, h, _, hc, _⟩⟩ := h
  · cases h
  · injection h with e1 _ _
    injection e1 with e1
    injection e1 with e1 _ _
    subst e1
    exact ⟨cur, hc⟩
theorem flat_set3 (l : List Rc) (r : Rc) (t : List Rc) (z : Int) : (flat (l ++ r :: t)).set (l.length * 4 + 3) (.int .i64 (r.h + z)) = flat (l ++ grw z r :: t) := by
  rw [flat_app, flat_app, List.set_append_right _ _ (by rw [flat_len]; omega), flat_len]
  congr 1
  show ((cel r ++ flat t).set (l.length * 4 + 3 - l.length * 4) _) = cel (grw z r) ++ flat t
  rw [Nat.add_sub_cancel_left]
  rfl
theorem upd_cell (L : List Rc) {m j : Nat} (z : Int) (hj : j + 1 + m = L.length) : (flat (upd L m z))[j * 4 + 3]? = some (.int .i64 (L[j]'(by omega)).h) ∧ (flat (upd L m z)).set (j * 4 + 3) (.int .i64 ((L[j]'(by omega)).h + z)) = flat (upd L (m + 1) z) := by
  obtain ⟨h1, h2⟩ := upd_step L z hj
  have hl : (L.take j).length = j := by rw [List.length_take]; omega
  rw [h1, h2]
  have q := flat_set3 (L.take j) (L[j]'(by omega)) ((L.drop (j + 1)).map (grw z)) z
  rw [hl] at q
  refine ⟨?_, q⟩
  have r := flat_at (L.take j ++ L[j]'(by omega) :: (L.drop (j + 1)).map (grw z)) j (by simp; omega)
  have e : (L.take j ++ L[j]'(by omega) :: (L.drop (j + 1)).map (grw z))[j]'(by simp; omega) = L[j]'(by omega) := by
    rw [List.getElem_append_right (by omega)]
    simp [hl]
  rw [e] at r
  exact r.2.2.2
theorem rcts_take (d : Bd) (m : Nat) (h : m < d.2.2.length) : (rcts d).take (m + 1) = (rcts d).take m ++ [⟨d.2.2[m].1, d.1, d.2.2[m].2 - d.2.2[m].1, d.2.1 - d.1⟩] := by
  have hl : m < (rcts d).length := by rw [rcts_len]; exact h
  rw [← List.take_append_getElem hl]
  congr 2
  simp [rcts]
theorem cell_bk4 {w : World} {g : Nat} {x y z q : Value} {t : TypeId} (h : w.heap[g]? = some (.cells #[x, y, z, q] t)) : ∀ (j : Nat) (u : Value), [x, y, z, q][j]? = some u → w.cell? ((⟨g, 0, none⟩ : Addr).add j) = some u := by
  intro j u hj
  obtain ⟨c, _, _⟩ := heap_cells h
  have e : (⟨g, 0, none⟩ : Addr).add j = ⟨g, j, none⟩ := by
    unfold Addr.add
    split <;> simp_all
  rw [e, c j]
  simpa using hj
theorem one4h (a b c d : Int) : ∀ u ∈ [Value.int .i64 a, .int .i64 b, .int .i64 c, .int .i64 d], u.oneCell' = true := by
  intro u hu
  simp at hu
  rcases hu with rfl | rfl | rfl | rfl <;> rfl
/-- The new rectangles laid so far. -/
def NwI (w2 : World) (acc : List Bd) (d : Bd) (m : Nat) (v u : Value) (wr : World) : Prop :=
  wr.ownsRow w2.heap.size 27 4 v (flatB acc ++ (rcts d).take m).length (flat (flatB acc ++ (rcts d).take m)) ∧ IL wr u (spI d.2.2) ∧ Below w2.heap.size w2 wr
/-- The last ones grown so far. -/
def GrI (w2 : World) (L : List Rc) (z : Int) (m : Nat) (v u : Value) (xs : List Int) (wr : World) : Prop :=
  wr.ownsRow w2.heap.size 27 4 v L.length (flat (upd L m z)) ∧ IL wr u xs ∧ Below w2.heap.size w2 wr

end Go.Proofs.Ytbghjmkgicdnoaa

/-
  Contracts of the document's answer for layer 2: Of.
-/
namespace Go.Proofs.Ytbghjmkgicdnoaa
open Go.RowKit

theorem wk_one (a b : List Rc) : formF (wK 1) (wA 1 a b) (wB 1 b) = formF false (a ++ b) [] := by simp [wK, wA, wB]
theorem wk_two (a b : List Rc) : formF (wK 2) (wA 2 a b) (wB 2 b) = formF true a b := by simp [wK, wA, wB]
theorem wk_three (a b : List Rc) : formF (wK 3) (wA 3 a b) (wB 3 b) = formF false a b := by simp [wK, wA, wB]
theorem wk_row (a : List Rc) (y : Int) : rowW (wK 1) (wA 1 a []) (wB 1 []) y = rowW false a [] y := by simp [wK, wA, wB]
theorem Mays_nil : Mays [] := fun r hr => by cases hr
theorem Ans.up {w W w' : World} {L : List Rc} {E : Int} {e : Ending} (h : Ans W L E e w') (hb : Below w.heap.size w W) : Ans w L E e w' := by
  obtain ⟨v, he, ho, hB⟩ := h
  exact ⟨v, he, row_weaken ho hb.size, hb.trans (hB.mono hb.size)⟩

end Go.Proofs.Ytbghjmkgicdnoaa

/-
  A region that draws its order, by what holds between its operations: each operation is walked once, from whatever has been done before.
-/
namespace Go.Proofs.Ytbghjmkgicdnoaa
open Go.RowKit

def acyB (ops : Array Oper) : Bool := ((List.range ops.size).all fun i => (preds ops i).all fun p => decide (p < i)) && Region.noSelect ops
section
variable {P : Program} {ops : Array Oper} {Q : Exit → Act → World → Prop}

theorem op_step {i : Nat} {o : Oper} {a : Act} {w : World} {K : Act → World → Prop} (ho : ops[i]? = some o) (h : if Region.wanted o (yielded ops a.tmps) = true then Oper.wp P o a w K Q else K (a.put o.dst undef) w) : wpOp P ops Q i K a w := by
  unfold wpOp
  rw [ho]
  show if Region.wanted o (yielded ops a.tmps) = true then _ else _
  by_cases hw : Region.wanted o (yielded ops a.tmps) = true
  · rw [if_pos hw] at h ⊢; exact .inl h
  · rw [if_neg hw] at h ⊢; exact h
theorem wpAny_inv (I : (Nat → Bool) → Act → World → Prop) (acy : acyB ops = true)
    (step : ∀ b a w i o, I b a w → b i = false → ops[i]? = some o → (∀ p ∈ preds ops i, b p = true) → ∀ K' : Act → World → Prop, (∀ a' w', I (fun j => if j = i then true else b j) a' w' → K' a' w') → if Region.wanted o (yielded ops a.tmps) = true then Oper.wp P o a w K' Q else K' (a.put o.dst undef) w)
    (fin : ∀ b a w, I b a w → (∀ i, i < ops.size → b i = true) → Q .normal a w) :
    ∀ (fuel : Nat) (l : Array Bool) (a : Act) (w : World), l.size = ops.size → I (fun j => l.getD j false) a w → left ops.size l ≤ fuel → wpAny P .any ops Q fuel l a w := by
  have hac : ∀ i, i < ops.size → ∀ p ∈ preds ops i, p < i := by
    unfold acyB at acy
    simp only [Bool.and_eq_true, List.all_eq_true, List.mem_range, decide_eq_true_eq] at acy
    exact acy.1
  have hready : ∀ (l : Array Bool) (i : Nat), i ∈ Region.ready .any ops l → l.size = ops.size → i < ops.size ∧ l.getD i false = false ∧ ∃ o, ops[i]? = some o ∧ ∀ p ∈ preds ops i, l.getD p false = true := by
    intro l i hi hs
    obtain ⟨h1, o, ho, h2⟩ := mem_ready.1 hi
    have hlt : i < ops.size := (Array.getElem?_eq_some_iff.1 ho).1
    refine ⟨hlt, ?_, o, ho, fun p hp => ?_⟩
    · have : i < l.size := by rw [hs]; exact hlt
      simp [Array.getD_eq_getD_getElem?, this] at h1 ⊢
      exact h1
    · unfold preds at hp
      rw [ho] at hp
      simp only [List.mem_map, List.mem_filter] at hp
      obtain ⟨e, ⟨he, hb⟩, rfl⟩ := hp
      exact h2 e (by simpa using he) hb
  have hempty : ∀ (l : Array Bool), l.size = ops.size → Region.ready .any ops l = [] → ∀ i, i < ops.size → l.getD i false = true := by
    intro l hs he i
    induction i using Nat.strongRecOn with
    | ind i ih =>
      intro hi
      cases hv : l.getD i false with
      | true => rfl
      | false =>
        exfalso
        refine absurd (mem_ready (md := .any).2 ⟨?_, ?_⟩ : i ∈ Region.ready .any ops l) (by rw [he]; simp)
        · have : i < l.size := by rw [hs]; exact hi
          simp [Array.getD_eq_getD_getElem?, this] at hv ⊢
          exact hv
        · refine ⟨ops[i]'hi, by simp, fun e hem hb => ?_⟩
          have hp : e.on ∈ preds ops i := by
            unfold preds
            rw [show ops[i]? = some (ops[i]'hi) by simp]
            simp only [List.mem_map, List.mem_filter]
            exact ⟨e, ⟨by simpa using hem, hb⟩, rfl⟩
          have hlt := hac i hi _ hp
          exact ih e.on hlt (by omega)
  intro fuel
  induction fuel with
  | zero =>
    intro l a w hs hI hl
    have hall := left_zero (n := ops.size) (l := l) (by omega)
    refine ⟨?_, fin _ a w hI hall⟩
    cases hr : Region.ready .any ops l with
    | nil => rfl
    | cons i rs =>
      have hm : i ∈ Region.ready .any ops l := by rw [hr]; simp
      obtain ⟨h1, h2, _⟩ := hready l i hm hs
      rw [hall i h1] at h2
      cases h2
  | succ fuel ih =>
    intro l a w hs hI hl
    refine ⟨fun he => fin _ a w hI (hempty l hs he), fun i hi => ?_⟩
    obtain ⟨h1, h2, o, ho, h3⟩ := hready l i hi hs
    refine op_step ho (step _ a w i o hI h2 ho h3 _ fun a' w' hI' => ?_)
    have hil : i < l.size := by rw [hs]; exact h1
    refine ih _ a' w' (by simp [hs]) ?_ ?_
    · have e : (fun j => (l.setIfInBounds i true).getD j false) = fun j => if j = i then true else l.getD j false := by
        funext j
        rw [getD_set l i j hil]
        by_cases c : i = j
        · rw [if_pos c, if_pos c.symm]
        · rw [if_neg c, if_neg (fun e => c e.symm)]
      rw [e]
      exact hI'
    · have := left_set ops.size l i h1 hil h2
      omega
theorem wp_region_inv {id : Nat} {a0 : Act} {W : World} {l : List Oper} (I : (Nat → Bool) → Act → World → Prop) (hm : P.follows .mixedOrders = true) (acy : acyB l.toArray = true) (h0 : I (fun _ => false) a0 W.drew)
    (step : ∀ b a w i o, I b a w → b i = false → l.toArray[i]? = some o → (∀ p ∈ preds l.toArray i, b p = true) → ∀ K' : Act → World → Prop, (∀ a' w', I (fun j => if j = i then true else b j) a' w' → K' a' w') → if Region.wanted o (yielded l.toArray a.tmps) = true then Oper.wp P o a w K' Q else K' (a.put o.dst undef) w)
    (fin : ∀ b a w, I b a w → (∀ i, i < l.toArray.size → b i = true) → Q .normal a w) :
    (Code.region id l.toArray true).wp P Q a0 W := by
  refine wp_region_any hm ?_
  refine wpAny_inv I acy step fin _ _ a0 _ (by simp) ?_ ?_
  · have e : (fun j => (Array.replicate l.toArray.size false).getD j false) = fun _ => false := by
      funext k
      simp [Array.getD_eq_getD_getElem?, Array.getElem?_replicate]
      split <;> rfl
    rw [e]
    exact h0
  · unfold left
    exact Nat.le_trans (List.length_filter_le _ _) (by simp)
end

end Go.Proofs.Ytbghjmkgicdnoaa

/-
  Contracts of the document's answer for layer 13: Bound.
-/
namespace Go.Proofs.Ytbghjmkgicdnoaa
open Go.RowKit

def bouL (l : List St) : List Rc := if chkS l = 0 then ansL (lisE (plA (ann [] l))) (formF false (plA (ann [] l)) []) else []
def bouE (l : List St) : Int := if chkS l = 0 then ansE (lisE (plA (ann [] l))) (formF false (plA (ann [] l)) []) else chkS l
theorem plA_snoc (A : List (St × Rc)) (p : St × Rc) : plA (A ++ [p]) = plA A ++ plc p.1 p.2 := by
  unfold plA
  rw [List.flatMap_append, List.flatMap_singleton]
theorem plA_len (A : List (St × Rc)) : (plA A).length ≤ A.length * 4 := by
  induction A with
  | nil => exact Nat.le_refl _
  | cons p A ih =>
    have := plc_len p.1 p.2
    unfold plA at ih ⊢
    rw [List.flatMap_cons, List.length_append, List.length_cons]
    omega

/-- Rectangles that lie somewhere laid behind a row of one's own, at a step of a region that draws its order. -/
theorem step_appR {P : Program} {w : World} {ops : Array Oper} {o : Oper} {a : Act} {K : Act → World → Prop} {Q : Exit → Act → World → Prop} {E : Prop} (hgd : o.guard = none) (s x : Operand)
    (ho : o.op = .call { callee := .builtin .append, args := #[s, x], argTypes := #[39, 39] })
    (i : TypeInfo) (ht : P.underlying 39 = some (.slice 27)) (hi : P.info? 27 = some i) (hz : i.zero = some (.agg #[.int .i64 0, .int .i64 0, .int .i64 0, .int .i64 0]))
    (hsize : i.size = 4) (hby : i.bytes = 32) (lo : Nat) (u : Value) (F : List Rc) (hs : a.eval s = u) (hown : OwR lo w u F) (hlen : F.length ≤ 100000) (hlo : lo ≤ w.heap.size) (rs : List Rc) (vx : Value) (hx : a.eval x = vx) (hv : LsR w vx rs) (hn : NoNil vx) (hl : rs.length ≤ 1000)
    (h : ∀ v' w', OwR lo w' v' (F ++ rs) → w.grownBy w' u.ownBlock → K (a.put o.dst v') w') : if Region.wanted o (yielded ops a.tmps) = true then Oper.wp P o a w K Q else E := by
  have hw : Region.wanted o (yielded ops a.tmps) = true := by simp [Region.wanted, hgd]
  rw [if_pos hw]
  obtain ⟨oa, cap, rfl, hc, hg⟩ := hv
  cases oa with
  | none =>
    have h0 : rs = [] := by
      cases rs with
      | nil => rfl
      | cons r t =>
        obtain ⟨g, o, e2, _⟩ := hg (by simp)
        cases e2
    subst h0
    obtain rfl : cap = 0 := hn cap rfl
    have hrun := run_append_owned_none (P := P) (w := w) lo 39 o.type 27 i 4 ht hi u F.length (flat F) hown
    have hx' : a.eval x = .slice none 0 0 := hx
    unfold Oper.wp
    simp [execOp, ho, resolve, invoke, builtin, hs, hx', hrun, Result.andThen]
    exact h _ _ (by rw [List.append_nil]; exact hown) (World.grownBy.refl _ _)
  | some ad =>
    refine wp_append_own w s x _ ho lo 27 i (.agg #[.int .i64 0, .int .i64 0, .int .i64 0, .int .i64 0]) 4 32 ht hi hz hsize hby rfl (by decide) u F.length (flat F) hs hown ad rs.length cap (flat rs) hx (flat_len rs) ?_ (flat_ones rs) (by unfold maxLen; omega) (by omega) hlo ?_
    · intro j u' hj
      have hp : 0 < rs.length := by
        cases rs with
        | nil => simp [flat] at hj
        | cons r t => simp
      obtain ⟨g, o, e2, _, hat⟩ := hg hp
      injection e2 with e2
      subst e2
      exact lsr_src hat j u' hj
    · intro v' w' h2 h3 _
      refine h v' w' ?_ h3
      unfold OwR
      rw [List.length_append, flat_app]
      exact h2

def JZH (w2 : World) (B g oo g1 n k m cap cp cu : Nat) (ou : Option Addr) (sx : St) (sr : Rc) (F : List Rc) (b : Nat → Bool) (u6 u22 u23 u24 u25 u26 u27 u28 u29 u30 u31 u32 : Value) (x : World) : Prop :=
  (b 0 = true → u22 = .slice ou m cu) ∧
  (b 1 = true → u23 = .slice (some ⟨g, oo, none⟩) n cap) ∧
  (b 2 = true → u24 = .int .i64 (k : Nat)) ∧
  (b 3 = true → u25 = .pointer (some ⟨g, oo + k * 15, none⟩)) ∧
  (b 4 = true → u26 = (Value.agg #[.int .u8 sx.k, .int .i64 sx.r.x, .int .i64 sx.r.y, .int .i64 sx.r.w, .int .i64 sx.r.h, .int .u8 sx.c.r, .int .u8 sx.c.g, .int .u8 sx.c.b, .int .u8 sx.c.a, .int .u8 sx.b.r, .int .u8 sx.b.g, .int .u8 sx.b.b, .int .u8 sx.b.a, .string sx.t, .int .i64 sx.n])) ∧
  (b 5 = true → u27 = .slice (some ⟨g1, 0, none⟩) n cp) ∧
  (b 6 = true → u28 = .int .i64 (k : Nat)) ∧
  (b 7 = true → u29 = .pointer (some ⟨g1, k * 4, none⟩)) ∧
  (b 8 = true → u30 = .agg #[.int .i64 sr.x, .int .i64 sr.y, .int .i64 sr.w, .int .i64 sr.h]) ∧
  (b 9 = true → b 10 = false → LsR x u31 (plc sx sr) ∧ NoNil u31) ∧
  (b 10 = true → OwR B x u32 (F ++ plc sx sr)) ∧
  (b 11 = true → u6 = u32) ∧
  Below B w2 x ∧
  (b 10 = false → OwR B x (.slice ou m cu) F) ∧
  (b 11 = false → u6 = .slice ou m cu) ∧
  (b 11 = true → b 0 = true) ∧
  (b 10 = true → b 0 = true) ∧
  (b 11 = true → b 10 = true)
theorem JZH.grow {w2 : World} {B g oo g1 n k m cap cp cu : Nat} {ou : Option Addr} {sx : St} {sr : Rc} {F : List Rc} {b : Nat → Bool} {u6 u22 u23 u24 u25 u26 u27 u28 u29 u30 u31 u32 : Value} {x x' : World} (h : JZH w2 B g oo g1 n k m cap cp cu ou sx sr F b u6 u22 u23 u24 u25 u26 u27 u28 u29 u30 u31 u32 x) (hb : Below x.heap.size x x') (hB : B ≤ w2.heap.size) : JZH w2 B g oo g1 n k m cap cp cu ou sx sr F b u6 u22 u23 u24 u25 u26 u27 u28 u29 u30 u31 u32 x' := by
  obtain ⟨j0, j1, j2, j3, j4, j5, j6, j7, j8, j9, j10, j11, e0, e1, e2, e3, e4, e5⟩ := h
  exact ⟨j0, j1, j2, j3, j4, j5, j6, j7, j8, (fun h h2 => ⟨(j9 h h2).1.below hb, (j9 h h2).2⟩), (fun h => (j10 h).below hb), j11, e0.trans (hb.mono (Nat.le_trans hB e0.size)), (fun h => (e1 h).below hb), e2, e3, e4, e5⟩

end Go.Proofs.Ytbghjmkgicdnoaa
