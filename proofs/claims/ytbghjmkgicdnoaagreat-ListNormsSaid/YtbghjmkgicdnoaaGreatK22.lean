/-
  Texts of this claim, one behind the other: what each is about stands ahead of it.
-/
import Derived.Test.YtbghjmkgicdnoaaGreatK1
import Derived.Test.YtbghjmkgicdnoaaGreatK21
import Derived.Test.YtbghjmkgicdnoaaGreatK7
/-
  How many rectangles a form has: at most n * n, if the lists have n together.
-/
namespace Go.Proofs.YtbghjmkgicdnoaaGreat

theorem len_le : ∀ (l m : List Int), l.Nodup → (∀ x ∈ l, x ∈ m) → l.length ≤ m.length
  | [], _, _, _ => Nat.zero_le _
  | x :: l, m, hn, hm => by
    obtain ⟨h1, h2⟩ := List.nodup_cons.1 hn
    have hx := hm x (List.mem_cons_self ..)
    have h := len_le l (m.erase x) h2 fun y hy => (List.mem_erase_of_ne (fun e => h1 (by rw [← e]; exact hy))).2 (hm y (List.mem_cons_of_mem _ hy))
    rw [List.length_erase_of_mem hx] at h
    have := List.length_pos_of_mem hx
    rw [List.length_cons]
    omega

/-- The sum of a number for each of a list. -/
def sumN {α : Type} (f : α → Nat) : List α → Nat
  | [] => 0
  | x :: l => f x + sumN f l
theorem sumN_le {α : Type} {f g : α → Nat} : ∀ {l : List α}, (∀ x ∈ l, f x ≤ g x) → sumN f l ≤ sumN g l
  | [], _ => Nat.le_refl _
  | x :: _, h => Nat.add_le_add (h x (List.mem_cons_self ..)) (sumN_le fun y hy => h y (List.mem_cons_of_mem _ hy))
theorem sumN_add {α : Type} (f g : α → Nat) : ∀ l : List α, sumN (fun x => f x + g x) l = sumN f l + sumN g l
  | [] => rfl
  | x :: l => by rw [sumN, sumN, sumN, sumN_add f g l]; omega
theorem sumN_zero {α : Type} : ∀ l : List α, sumN (fun _ => 0) l = 0
  | [] => rfl
  | _ :: l => by rw [sumN, sumN_zero l]
theorem sumN_swap {α β : Type} (f : α → β → Nat) (m : List β) : ∀ l : List α, sumN (fun x => sumN (f x) m) l = sumN (fun y => sumN (fun x => f x y) l) m
  | [] => by rw [sumN]; exact (sumN_zero m).symm
  | x :: l => by
    rw [sumN, sumN_swap f m l, ← sumN_add]
    rfl
theorem sumN_filter {α : Type} (p : α → Bool) : ∀ l : List α, (l.filter p).length = sumN (fun x => if p x = true then 1 else 0) l
  | [] => rfl
  | x :: l => by
    rw [List.filter_cons, sumN, ← sumN_filter p l]
    by_cases h : p x = true
    · rw [if_pos h, if_pos h, List.length_cons]; omega
    · rw [if_neg h, if_neg h]; omega
theorem sumN_const {α : Type} (c : Nat) : ∀ l : List α, sumN (fun _ => c) l = c * l.length
  | [] => rfl
  | _ :: l => by rw [sumN, sumN_const c l, List.length_cons, Nat.mul_succ]; omega
/-- Pairs: each two of a list count two at most, none for itself. -/
theorem pairs_le {α : Type} (f : α → α → Nat) (h0 : ∀ x, f x x = 0) (h2 : ∀ x y, f x y + f y x ≤ 2) : ∀ l : List α, sumN (fun x => 1 + sumN (f x) l) l ≤ l.length * l.length
  | [] => Nat.le_refl _
  | x :: l => by
    have ih := pairs_le f h0 h2 l
    have e1 : sumN (fun y => 1 + sumN (f y) (x :: l)) l = sumN (fun y => f y x) l + sumN (fun y => 1 + sumN (f y) l) l := by
      rw [← sumN_add]
      congr 1
      funext y
      rw [sumN]
      omega
    have e2 : sumN (fun y => f x y) l + sumN (fun y => f y x) l ≤ 2 * l.length := by
      rw [← sumN_add, ← sumN_const]
      exact sumN_le fun y _ => h2 x y
    have e3 : sumN (fun y => f x y) l = sumN (f x) l := rfl
    rw [e3] at e2
    rw [sumN, e1]
    have e4 : sumN (f x) (x :: l) = sumN (f x) l := by rw [sumN, h0, Nat.zero_add]
    rw [e4, List.length_cons, Nat.succ_mul, Nat.mul_succ]
    omega

/-- Beginnings of spans are all different. -/
theorem can_nodup : ∀ {a : Int} {l : List Sp}, Can a l → (l.map (·.1)).Nodup
  | _, [], _ => List.nodup_nil
  | a, s :: t, h => by
    rw [List.map_cons, List.nodup_cons]
    refine ⟨fun hm => ?_, can_nodup h.2.2⟩
    obtain ⟨q, hq, e⟩ := List.mem_map.1 hm
    have := (Can.ge h.2.2 q hq).1
    have := h.2.1
    omega
theorem can_start : ∀ {a : Int} {l : List Sp}, Can a l → ∀ s ∈ l, inS l s.1 ∧ ¬ inS l (s.1 - 1)
  | _, [], _, _, hs => by cases hs
  | a, q :: t, h, s, hs => by
    rcases List.mem_cons.1 hs with rfl | hs
    · refine ⟨(inS_cons _ _ _).2 (.inl ⟨Int.le_refl _, h.2.1⟩), fun hx => ?_⟩
      rcases (inS_cons _ _ _).1 hx with ⟨h1, _⟩ | h1
      · omega
      · have := Can.low h.2.2 h1
        have := h.2.1
        omega
    · obtain ⟨h1, h2⟩ := can_start h.2.2 s hs
      refine ⟨(inS_cons _ _ _).2 (.inr h1), fun hx => ?_⟩
      rcases (inS_cons _ _ _).1 hx with ⟨_, h3⟩ | h3
      · have := (Can.ge h.2.2 s hs).1
        omega
      · exact h2 h3

def actB (y : Int) (r : Rc) : Bool := keepE r && (decide (r.y ≤ y) && decide (y < r.y + r.h))
theorem act_iff (y : Int) (r : Rc) : actB y r = true ↔ keepE r = true ∧ r.y ≤ y ∧ y < r.y + r.h := by simp [actB]
theorem cov_begin {l : List Rc} {x y : Int} (h : cov l x y) (h2 : ¬ cov l (x - 1) y) : ∃ r ∈ l, actB y r = true ∧ r.x = x := by
  obtain ⟨r, hr, hk, p1, p2, p3, p4⟩ := h
  refine ⟨r, hr, (act_iff _ _).2 ⟨hk, p3, p4⟩, ?_⟩
  by_cases e : r.x = x
  · exact e
  · exact absurd ⟨r, hr, hk, by omega, by omega, p3, p4⟩ h2
theorem cov_end {l : List Rc} {x y : Int} (h : cov l (x - 1) y) (h2 : ¬ cov l x y) : ∃ r ∈ l, actB y r = true ∧ r.x + r.w = x := by
  obtain ⟨r, hr, hk, p1, p2, p3, p4⟩ := h
  refine ⟨r, hr, (act_iff _ _).2 ⟨hk, p3, p4⟩, ?_⟩
  by_cases e : r.x + r.w = x
  · exact e
  · exact absurd ⟨r, hr, hk, by omega, by omega, p3, p4⟩ h2
/-- Spans of a row: not more than rectangles that reach it. -/
theorem row_count (k : Bool) (a b : List Rc) (y : Int) : (rowW k a b y).length ≤ ((a ++ b).filter (actB y)).length := by
  obtain ⟨h1, h2⟩ := rowW_can k a b y
  have h := len_le ((rowW k a b y).map (·.1)) (((a.filter (actB y)).map (·.x)) ++ ((b.filter (actB y)).map fun r => if k = true then r.x else r.x + r.w)) (can_nodup h1) fun x hx => by
    obtain ⟨s, hs, rfl⟩ := List.mem_map.1 hx
    obtain ⟨q1, q2⟩ := can_start h1 s hs
    rw [h2] at q1 q2
    by_cases hc : cov a (s.1 - 1) y
    · refine List.mem_append.2 (.inr ?_)
      cases k with
      | true =>
        obtain ⟨r, hr, ha, e⟩ := cov_begin (show cov b s.1 y from q1.2) (fun hb => q2 ⟨hc, hb⟩)
        exact List.mem_map.2 ⟨r, List.mem_filter.2 ⟨hr, ha⟩, by rw [if_pos rfl]; exact e⟩
      | false =>
        have q3 : ¬ cov b s.1 y := by simpa using q1.2
        have q4 : cov b (s.1 - 1) y := by
          refine Classical.byContradiction fun hn => q2 ⟨hc, ?_⟩
          simpa using hn
        obtain ⟨r, hr, ha, e⟩ := cov_end q4 q3
        exact List.mem_map.2 ⟨r, List.mem_filter.2 ⟨hr, ha⟩, by rw [if_neg (by decide)]; exact e⟩
    · obtain ⟨r, hr, ha, e⟩ := cov_begin q1.1 hc
      exact List.mem_append.2 (.inl (List.mem_map.2 ⟨r, List.mem_filter.2 ⟨hr, ha⟩, e⟩))
  rw [List.length_map, List.length_append, List.length_map, List.length_map] at h
  rw [List.filter_append, List.length_append]
  exact h

theorem bandS_top {sp : List Sp} {t b : Int} : ∀ {l : List Bd}, ∀ d ∈ bandS sp t b l, d.1 = t ∨ d.1 ∈ l.map (·.1)
  | [], d, hd => by
    rw [bandS] at hd
    split at hd
    · cases hd
    · rw [List.mem_singleton] at hd; exact .inl (by rw [hd])
  | e :: l, d, hd => by
    rw [bandS] at hd
    split at hd
    · exact .inr (List.mem_map.2 ⟨d, hd, rfl⟩)
    · split at hd
      · rcases List.mem_cons.1 hd with rfl | hd
        · exact .inr (by simp)
        · exact .inr (List.mem_map.2 ⟨d, List.mem_cons_of_mem _ hd, rfl⟩)
      · rcases List.mem_cons.1 hd with rfl | hd
        · exact .inl rfl
        · exact .inr (List.mem_map.2 ⟨d, hd, rfl⟩)
theorem bands_top (row : Int → List Sp) : ∀ (ys : List Int) (acc : List Bd), ∀ d ∈ bandsF row ys acc, d.1 ∈ ys ∨ d.1 ∈ acc.map (·.1)
  | [], _, d, hd => .inr (List.mem_map.2 ⟨d, hd, rfl⟩)
  | [_], _, d, hd => .inr (List.mem_map.2 ⟨d, hd, rfl⟩)
  | t :: b :: rest, acc, d, hd => by
    rw [bandsF] at hd
    rcases bands_top row (b :: rest) _ d hd with h | h
    · exact .inl (List.mem_cons_of_mem _ h)
    · obtain ⟨e, he, h⟩ := List.mem_map.1 h
      rcases bandS_top e he with h2 | h2
      · exact .inl (by rw [← h, h2]; exact List.mem_cons_self ..)
      · exact .inr (by rw [← h]; exact h2)
theorem ban_low : ∀ {z : Int} {l : List Bd}, BanR z l → ∀ d ∈ l, d.1 < z
  | _, [], _, _, hd => by cases hd
  | z, e :: l, h, d, hd => by
    obtain ⟨h1, h2, _, _, h5⟩ := h
    rcases List.mem_cons.1 hd with rfl | hd
    · omega
    · have := ban_low h5 d hd
      omega
theorem ban_nodup : ∀ {z : Int} {l : List Bd}, BanR z l → (l.map (·.1)).Nodup
  | _, [], _ => List.nodup_nil
  | z, e :: l, h => by
    obtain ⟨h1, h2, _, _, h5⟩ := h
    rw [List.map_cons, List.nodup_cons]
    refine ⟨fun hm => ?_, ban_nodup h5⟩
    obtain ⟨q, hq, e⟩ := List.mem_map.1 hm
    have := ban_low h5 q hq
    omega
theorem flatB_num (l : List Bd) : (flatB l).length = sumN (fun d => d.2.2.length) l := by
  unfold flatB
  induction l with
  | nil => rfl
  | cons d l ih =>
    rw [List.reverse_cons, List.map_append, List.flatten_append, List.length_append, ih, sumN]
    simp [rcts]
    omega

/-- How an edge of s lies inside of r. -/
def insd (r s : Rc) : Nat := (if r.y < s.y ∧ s.y < r.y + r.h then 1 else 0) + (if r.y < s.y + s.h ∧ s.y + s.h < r.y + r.h then 1 else 0)
theorem insd_self (r : Rc) : insd r r = 0 := by unfold insd; rw [if_neg (by omega), if_neg (by omega)]
theorem insd_two (r s : Rc) : insd r s + insd s r ≤ 2 := by
  unfold insd
  split <;> split <;> split <;> split <;> omega

theorem in_count (D : List Bd) (M : List Rc) (hn : (D.map (·.1)).Nodup) (hD : ∀ d ∈ D, isEdge M d.1) (r : Rc) : sumN (fun d : Bd => if actB d.1 r = true then 1 else 0) D ≤ 1 + sumN (insd r) M := by
  rw [← sumN_filter (fun d : Bd => actB d.1 r) D]
  have h := len_le ((D.filter fun d => actB d.1 r).map (·.1)) (r.y :: ((M.filter fun s => decide (r.y < s.y ∧ s.y < r.y + r.h)).map (·.y) ++ (M.filter fun s => decide (r.y < s.y + s.h ∧ s.y + s.h < r.y + r.h)).map fun s => s.y + s.h)) (List.Pairwise.sublist (List.Sublist.map _ List.filter_sublist) hn) fun x hx => by
    obtain ⟨d, hd, rfl⟩ := List.mem_map.1 hx
    obtain ⟨hd1, hd2⟩ := List.mem_filter.1 hd
    obtain ⟨_, q1, q2⟩ := (act_iff _ _).1 hd2
    by_cases e : d.1 = r.y
    · exact List.mem_cons.2 (.inl e)
    · refine List.mem_cons.2 (.inr ?_)
      obtain ⟨s, hs, _, e2 | e2⟩ := hD d hd1
      · exact List.mem_append.2 (.inl (List.mem_map.2 ⟨s, List.mem_filter.2 ⟨hs, decide_eq_true ⟨by omega, by omega⟩⟩, e2.symm⟩))
      · exact List.mem_append.2 (.inr (List.mem_map.2 ⟨s, List.mem_filter.2 ⟨hs, decide_eq_true ⟨by omega, by omega⟩⟩, e2.symm⟩))
  rw [List.length_map, List.length_cons, List.length_append, List.length_map, List.length_map] at h
  rw [sumN_filter (fun s : Rc => decide (r.y < s.y ∧ s.y < r.y + r.h)), sumN_filter (fun s : Rc => decide (r.y < s.y + s.h ∧ s.y + s.h < r.y + r.h)), ← sumN_add] at h
  have e : (fun x : Rc => (if decide (r.y < x.y ∧ x.y < r.y + r.h) = true then 1 else 0) + (if decide (r.y < x.y + x.h ∧ x.y + x.h < r.y + r.h) = true then 1 else 0)) = insd r := by
    funext s
    unfold insd
    simp only [decide_eq_true_eq]
  rw [e] at h
  omega
/-- The form of what two lists make has at most as many rectangles as the square of their number. -/
theorem form_count (k : Bool) (a b : List Rc) : (formF k a b).length ≤ (a.length + b.length) * (a.length + b.length) := by
  obtain ⟨⟨z, h1⟩, h2⟩ := bandsR_ban k a b
  unfold formF
  rw [flatB_num]
  have s1 : sumN (fun d : Bd => d.2.2.length) (bandsR k a b) ≤ sumN (fun d : Bd => sumN (fun r => if actB d.1 r = true then 1 else 0) (a ++ b)) (bandsR k a b) := by
    refine sumN_le fun d hd => ?_
    have hf := fAt_mem h1 d hd d.1 (Int.le_refl _) (ban_mem h1 d hd).1
    rw [h2] at hf
    rw [← hf, ← sumN_filter]
    exact row_count k a b d.1
  rw [sumN_swap (fun (d : Bd) r => if actB d.1 r = true then 1 else 0)] at s1
  have s2 : sumN (fun r => sumN (fun d : Bd => if actB d.1 r = true then 1 else 0) (bandsR k a b)) (a ++ b) ≤ sumN (fun r => 1 + sumN (insd r) (a ++ b)) (a ++ b) := by
    refine sumN_le fun r _ => in_count _ _ (ban_nodup h1) (fun d hd => ?_) r
    unfold bandsR at hd
    rcases bands_top _ _ _ d hd with h | h
    · exact ((edges_inc (a ++ b)).2 _).1 h
    · simp at h
  have s3 := pairs_le insd insd_self insd_two (a ++ b)
  rw [List.length_append] at s3
  omega

end Go.Proofs.YtbghjmkgicdnoaaGreat

/-
  The document's forms, band by band: plain lists.
-/
namespace Go.Proofs.YtbghjmkgicdnoaaGreat

theorem bandsF_step (row : Int → List Sp) {ys : List Int} {k : Nat} (h : k + 1 < ys.length) (acc : List Bd) : bandsF row (ys.drop k) acc = bandsF row (ys.drop (k + 1)) (bandS (row ys[k]) ys[k] ys[k + 1] acc) := by
  rw [List.drop_eq_getElem_cons (show k < ys.length by omega), List.drop_eq_getElem_cons h, bandsF]
theorem bandsF_done (row : Int → List Sp) {ys : List Int} {k : Nat} (h : ¬ k + 1 < ys.length) (acc : List Bd) : bandsF row (ys.drop k) acc = acc := by
  have : (ys.drop k).length ≤ 1 := by rw [List.length_drop]; omega
  match hx : ys.drop k, this with
  | [], _ => rfl
  | [_], _ => rfl
  | _ :: _ :: _, h => simp at h
theorem lastS_new {sp : List Sp} {t b : Int} {acc : List Bd} (hb : BanR t acc) (ht : t < b) : lastS (bandS sp t b acc) b = sp := by
  by_cases h0 : sp = []
  · subst h0
    rw [bandS_none]
    exact lastS_high hb ht
  · by_cases c : sp = lastS acc t
    · obtain ⟨d, ds, _, _, _, e⟩ := bandS_alike (b := b) c h0
      rw [e, lastS, if_pos rfl]
    · rw [bandS_other c h0, lastS, if_pos rfl]
theorem flatB_other {sp : List Sp} {t b : Int} {acc : List Bd} (h : sp ≠ lastS acc t) : flatB (bandS sp t b acc) = flatB acc ++ rcts (t, b, sp) := by
  by_cases h0 : sp = []
  · subst h0
    rw [bandS_none]
    simp [rcts]
  · rw [bandS_other h h0, flatB_cons]
def grw (z : Int) (r : Rc) : Rc := ⟨r.x, r.y, r.w, r.h + z⟩
/-- The last m rectangles grown. -/
def upd (L : List Rc) (m : Nat) (z : Int) : List Rc := L.take (L.length - m) ++ (L.drop (L.length - m)).map (grw z)
theorem upd_len (L : List Rc) (m : Nat) (z : Int) : (upd L m z).length = L.length := by
  unfold upd
  rw [List.length_append, List.length_map, ← List.length_append, List.take_append_drop]
theorem upd_zero (L : List Rc) (z : Int) : upd L 0 z = L := by
  unfold upd
  simp
theorem upd_step (L : List Rc) {m j : Nat} (z : Int) (hj : j + 1 + m = L.length) : upd L m z = L.take j ++ L[j]'(by omega) :: (L.drop (j + 1)).map (grw z) ∧ upd L (m + 1) z = L.take j ++ grw z (L[j]'(by omega)) :: (L.drop (j + 1)).map (grw z) := by
  unfold upd
  have e1 : L.length - m = j + 1 := by omega
  have e2 : L.length - (m + 1) = j := by omega
  rw [e1, e2]
  constructor
  · rw [← List.take_append_getElem (show j < L.length by omega), List.append_assoc]
    rfl
  · rw [List.drop_eq_getElem_cons (show j < L.length by omega)]
    rfl
theorem flatB_alike {sp : List Sp} {t b : Int} {acc : List Bd} (h : sp = lastS acc t) : flatB (bandS sp t b acc) = upd (flatB acc) sp.length (b - t) ∧ sp.length ≤ (flatB acc).length := by
  by_cases h0 : sp = []
  · subst h0
    rw [bandS_none]
    exact ⟨(upd_zero _ _).symm, Nat.zero_le _⟩
  · obtain ⟨d, ds, rfl, h1, h2, e⟩ := bandS_alike (b := b) h h0
    rw [e, flatB_cons, flatB_cons]
    have hl : (rcts d).length = sp.length := by rw [rcts_len, h2]
    refine ⟨?_, by rw [List.length_append, hl]; omega⟩
    unfold upd
    have e1 : (flatB ds ++ rcts d).length - sp.length = (flatB ds).length := by rw [List.length_append, hl]; omega
    rw [e1, List.take_left', List.drop_left']
    · congr 1
      unfold rcts
      rw [List.map_map, h2]
      refine List.map_congr_left fun s _ => ?_
      simp only [Function.comp, grw]
      congr 1
      omega
    · rfl
    · rfl
theorem flatB_made {sp : List Sp} {t b : Int} {acc : List Bd} : (flatB acc).length ≤ (flatB (bandS sp t b acc)).length := bandS_lenD sp t b acc
/-- The form, by the document's edges. -/
theorem form_doc {a b : List Rc} (ha : Mays a) (hb : Mays b) (what : Int) : formF (wK what) (wA what a b) (wB what b) = flatB (bandsF (rowW (wK what) (wA what a b) (wB what b)) (edTwo true 0 a b) []) := by
  unfold formF bandsR
  rw [edges_doc ha hb what 0]
theorem edge_bd {a b : List Rc} (ha : Mays a) (hb : Mays b) (n : Int) (h : n ∈ edTwo true 0 a b) : -16384 ≤ n ∧ n ≤ 16384 := by
  rcases (edTwo_mem true 0 a b n).1 h with ⟨r, hr, h⟩ | ⟨r, hr, h⟩
  · have b := may_iff.1 (ha r hr)
    unfold isEd at h
    simp at h
    omega
  · have b := may_iff.1 (hb r hr)
    unfold isEd at h
    simp at h
    omega
theorem row_bd (k : Bool) (a b : List Rc) (y : Int) : ∀ s ∈ rowW k a b y, -16384 ≤ s.1 ∧ s.1 < s.2 ∧ s.2 ≤ 16384 := by
  intro s hs
  obtain ⟨h1, h2⟩ := rowW_can k a b y
  obtain ⟨c1, c2⟩ := Can.ge h1 s hs
  have : inS (rowW k a b y) (s.2 - 1) := ⟨s, hs, by omega, by omega⟩
  have q := ((h2 _).1 this).1
  have := cov_in q
  exact ⟨c1, c2, by omega⟩
theorem row_len (what : Int) (a b : List Rc) (y : Int) : (rowW (wK what) (wA what a b) (wB what b) y).length ≤ a.length + b.length := by
  have h := row_count (wK what) (wA what a b) (wB what b) y
  have h2 := List.length_filter_le (actB y) (wA what a b ++ wB what b)
  have h3 : (wA what a b ++ wB what b).length = a.length + b.length := by
    unfold wA wB
    split <;> simp
  omega
/-- Bands within the places that there are. -/
def InB (l : List Bd) : Prop := ∀ d ∈ l, -16384 ≤ d.1 ∧ d.2.1 ≤ 16384 ∧ d.1 < d.2.1
theorem inB_step {sp : List Sp} {t b : Int} {acc : List Bd} (h : InB acc) (ht : -16384 ≤ t) (hb : b ≤ 16384) (htb : t < b) : InB (bandS sp t b acc) := by
  cases acc with
  | nil =>
    rw [bandS]
    split
    · exact h
    · intro d hd
      simp at hd
      subst hd
      exact ⟨ht, hb, htb⟩
  | cons e es =>
    rw [bandS]
    split
    · exact h
    · split
      · next c =>
        intro d hd
        rcases List.mem_cons.1 hd with rfl | hd
        · have := h e (by simp)
          exact ⟨this.1, hb, by simp; omega⟩
        · exact h d (by simp [hd])
      · intro d hd
        rcases List.mem_cons.1 hd with rfl | hd
        · exact ⟨ht, hb, htb⟩
        · exact h d hd
theorem inB_h {acc : List Bd} (h : InB acc) : ∀ r ∈ flatB acc, 0 ≤ r.h ∧ r.h ≤ 32768 := by
  intro r hr
  obtain ⟨d, hd, s, _, rfl⟩ := (flat_mem acc r).1 hr
  have := h d hd
  simp
  omega

end Go.Proofs.YtbghjmkgicdnoaaGreat
