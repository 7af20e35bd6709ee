/-
  Widths of texts in plain lists: of two texts one behind the other, of lines, of a cut text.
-/
import Derived.Test.YtlooemhaoikidaaDoorFC2
import Derived.Test.YtlooemhaoikidaaDoorFQ3
import Derived.Test.YtlooemhaoikidaaDoorRU
namespace Go.Proofs.YtlooemhaoikidaaDoor
open Go.Lib (decodeL decodeN)

theorem wdG_fuel : ∀ (f g : Nat) (l : List UInt8), l.length < f → l.length < g → wdG f l = wdG g l
  | 0, _, _, h, _ => absurd h (Nat.not_lt_zero _)
  | _, 0, _, _, h => absurd h (Nat.not_lt_zero _)
  | f + 1, g + 1, l, hf, hg => by
    rw [wdG, wdG]
    by_cases hn : l = []
    · rw [if_pos hn, if_pos hn]
    · rw [if_neg hn, if_neg hn]
      have hz := Lib.decodeL_width l
      have hp : 0 < l.length := List.length_pos_iff.2 hn
      rw [wdG_fuel f g _ (by rw [List.length_drop]; omega) (by rw [List.length_drop]; omega)]
/-- The cells of a text, rune by rune. -/
def wd (l : List UInt8) : Int := wdG (l.length + 1) l
theorem wd_nil : wd [] = 0 := rfl
theorem wd_step {l : List UInt8} (h : l ≠ []) : wd l = width (decodeL l).1 + wd (l.drop (decodeL l).2) := by
  have hz := Lib.decodeL_width l
  have hp : 0 < l.length := List.length_pos_iff.2 h
  unfold wd
  rw [wdG, if_neg h, wdG_fuel l.length ((l.drop (decodeL l).2).length + 1) _ (by rw [List.length_drop]; omega) (by omega)]
theorem sum_wd (s : ByteArray) : sumC (pcs s) = wd s.data.toList := by
  unfold wd
  rw [size_L]
  exact sum_L s _ (Nat.lt_succ_self _)

theorem dec_cont (x : UInt8) (t : List UInt8) (h : x.toNat / 64 = 2) : decodeL (x :: t) = (65533, 1) := by
  rw [Lib.decodeL_N]
  simp only [List.getD_cons_zero]
  unfold decodeN
  rw [if_neg (by omega), if_neg (by omega), if_neg (by omega), if_neg (by omega)]
theorem wd_conts : ∀ (c t : List UInt8), (∀ x ∈ c, x.toNat / 64 = 2) → wd (c ++ t) = c.length + wd t
  | [], t, _ => by simp
  | x :: c, t, h => by
    have hx := dec_cont x (c ++ t) (h x (by simp))
    rw [List.cons_append, wd_step (by simp), hx]
    show width 65533 + wd (c ++ t) = _
    rw [wd_conts c t (fun y hy => h y (by simp [hy])), List.length_cons]
    have : width 65533 = 1 := by decide
    omega

theorem dec_app (a b : List UInt8) (ha : a ≠ []) : (decodeL (a ++ b) = decodeL a ∧ (decodeL a).2 ≤ a.length) ∨
    (decodeL a = (65533, 1) ∧ a.length < (decodeL (a ++ b)).2 ∧ (decodeL (a ++ b)).2 ≤ (a ++ b).length ∧ ∀ j, 1 ≤ j → j < (decodeL (a ++ b)).2 → ((a ++ b).getD j 0).toNat / 64 = 2) := by
  have hle := Lib.decodeL_le a ha
  have hle2 := Lib.decodeL_le (a ++ b) (by simp [ha])
  by_cases he : decodeL (a ++ b) = decodeL a
  · exact .inl ⟨he, hle⟩
  · refine .inr ?_
    rw [Lib.decodeL_N (a ++ b), Lib.decodeL_N a] at he
    rw [Lib.decodeL_N (a ++ b)] at hle2
    rw [Lib.decodeL_N (a ++ b), Lib.decodeL_N a]
    have g0 : (a ++ b).getD 0 0 = a.getD 0 0 := by cases a with
      | nil => exact absurd rfl ha
      | cons x t => rfl
    have gj : ∀ j, j < a.length → (a ++ b).getD j 0 = a.getD j 0 := by
      intro j hj
      rw [List.getD_eq_getElem?_getD, List.getD_eq_getElem?_getD, List.getElem?_append_left hj]
    have hal : 1 ≤ a.length := List.length_pos_iff.2 ha
    have hab : (a ++ b).length = a.length + b.length := List.length_append
    rw [g0, hab] at he hle2
    rw [g0, hab]
    have j1 := gj 1
    have j2 := gj 2
    have j3 := gj 3
    generalize (a.getD 0 0).toNat = b0 at *
    generalize ha1 : (a.getD 1 0).toNat = a1 at *
    generalize ha2 : (a.getD 2 0).toNat = a2 at *
    generalize ha3 : (a.getD 3 0).toNat = a3 at *
    generalize hb1 : ((a ++ b).getD 1 0) = b1 at *
    generalize hb2 : ((a ++ b).getD 2 0) = b2 at *
    generalize hb3 : ((a ++ b).getD 3 0) = b3 at *
    have k1 : 1 < a.length → b1.toNat = a1 := fun h => by rw [j1 h, ha1]
    have k2 : 2 < a.length → b2.toNat = a2 := fun h => by rw [j2 h, ha2]
    have k3 : 3 < a.length → b3.toNat = a3 := fun h => by rw [j3 h, ha3]
    clear j1 j2 j3 g0 hle
    have fin : ∀ m, (∀ j, 1 ≤ j → j < m → m ≤ 4 → (if j = 1 then b1 else if j = 2 then b2 else b3).toNat / 64 = 2) → m ≤ 4 → ∀ j, 1 ≤ j → j < m → ((a ++ b).getD j 0).toNat / 64 = 2 := by
      intro m h hm j h1 h2
      have hh := h j h1 h2 hm
      rcases (show j = 1 ∨ j = 2 ∨ j = 3 by omega) with rfl | rfl | rfl
      · rw [hb1]; simpa using hh
      · rw [hb2]; simpa using hh
      · rw [hb3]; simpa using hh
    have D : ∀ m : Nat, m ≤ 4 → a.length < m → decodeN a.length b0 a1 a2 a3 = (65533, 1) → (decodeN (a.length + b.length) b0 b1.toNat b2.toNat b3.toNat).2 = m → (∀ j, 1 ≤ j → j < m → m ≤ 4 → (if j = 1 then b1 else if j = 2 then b2 else b3).toNat / 64 = 2) →
        decodeN a.length b0 a1 a2 a3 = (65533, 1) ∧ a.length < (decodeN (a.length + b.length) b0 b1.toNat b2.toNat b3.toNat).2 ∧ (decodeN (a.length + b.length) b0 b1.toNat b2.toNat b3.toNat).2 ≤ a.length + b.length ∧ ∀ j, 1 ≤ j → j < (decodeN (a.length + b.length) b0 b1.toNat b2.toNat b3.toNat).2 → ((a ++ b).getD j 0).toNat / 64 = 2 := by
      intro m h4 hm h1 h2 h3
      rw [h2] at hle2
      rw [h2]
      exact ⟨h1, hm, hle2, fin m h3 h4⟩
    have bad : ∀ m, a.length < m → decodeN (a.length + b.length) b0 b1.toNat b2.toNat b3.toNat ≠ decodeN a.length b0 a1 a2 a3 → True := fun _ _ _ => trivial
    rcases Lib.decodeN_shape (a.length + b.length) b0 b1.toNat b2.toNat b3.toNat with ⟨c, e⟩ | ⟨c1, c2, c3, cv, e⟩ | ⟨c1, c2, c3, c4, cv, cs, e⟩ | ⟨c1, c2, c3, c4, c5, cv, cw, e⟩ | e
    · exact absurd (show _ = _ by rw [e]; unfold decodeN; rw [if_pos c]) he
    · by_cases hL : 1 < a.length
      · have e1 := k1 hL
        exact absurd (show _ = _ by rw [e, e1]; rw [e1] at c3 cv; unfold decodeN; rw [if_neg (by omega), if_pos ⟨c1, hL, c3⟩, if_pos cv]) he
      · refine D 2 (by omega) (by omega) ?_ (by rw [e]) ?_
        · unfold decodeN; rw [if_neg (by omega), if_neg (by omega), if_neg (by omega), if_neg (by omega)]
        · intro j h1 h2 _
          obtain rfl : j = 1 := by omega
          simpa using c3
    · by_cases hL : 2 < a.length
      · have e1 := k1 (by omega)
        have e2 := k2 hL
        exact absurd (show _ = _ by rw [e, e1, e2]; rw [e1] at c3 cv cs; rw [e2] at c4 cv cs; unfold decodeN; rw [if_neg (by omega), if_neg (by omega), if_pos ⟨c1, ⟨by omega, c3⟩, hL, c4⟩, if_pos ⟨cv, by omega⟩]) he
      · refine D 3 (by omega) (by omega) ?_ (by rw [e]) ?_
        · unfold decodeN; rw [if_neg (by omega), if_neg (by omega), if_neg (by omega), if_neg (by omega)]
        · intro j h1 h2 _
          rcases (show j = 1 ∨ j = 2 by omega) with rfl | rfl
          · simpa using c3
          · simpa using c4
    · by_cases hL : 3 < a.length
      · have e1 := k1 (by omega)
        have e2 := k2 (by omega)
        have e3 := k3 hL
        exact absurd (show _ = _ by rw [e, e1, e2, e3]; rw [e1] at c3 cv cw; rw [e2] at c4 cv cw; rw [e3] at c5 cv cw; unfold decodeN; rw [if_neg (by omega), if_neg (by omega), if_neg (by omega), if_pos ⟨c1, ⟨by omega, c3⟩, ⟨by omega, c4⟩, hL, c5⟩, if_pos ⟨cv, by omega⟩]) he
      · refine D 4 (by omega) (by omega) ?_ (by rw [e]) ?_
        · unfold decodeN; rw [if_neg (by omega), if_neg (by omega), if_neg (by omega), if_neg (by omega)]
        · intro j h1 h2 _
          rcases (show j = 1 ∨ j = 2 ∨ j = 3 by omega) with rfl | rfl | rfl
          · simpa using c3
          · simpa using c4
          · simpa using c5
    · refine absurd (show _ = _ from ?_) he
      rw [e]
      rcases Lib.decodeN_shape a.length b0 a1 a2 a3 with ⟨c, e'⟩ | ⟨c1, c2, c3, cv, e'⟩ | ⟨c1, c2, c3, c4, cv, cs, e'⟩ | ⟨c1, c2, c3, c4, c5, cv, cw, e'⟩ | e'
      · rw [← e]; unfold decodeN; rw [if_pos c, if_pos c]
      · have e1 := k1 c2
        rw [← e, e', e1]; unfold decodeN; rw [if_neg (by omega), if_pos ⟨c1, by omega, c3⟩, if_pos cv]
      · have e1 := k1 (by omega)
        have e2 := k2 c2
        rw [← e, e', e1, e2]; unfold decodeN; rw [if_neg (by omega), if_neg (by omega), if_pos ⟨c1, ⟨by omega, c3⟩, by omega, c4⟩, if_pos ⟨cv, by omega⟩]
      · have e1 := k1 (by omega)
        have e2 := k2 (by omega)
        have e3 := k3 c2
        rw [← e, e', e1, e2, e3]; unfold decodeN; rw [if_neg (by omega), if_neg (by omega), if_neg (by omega), if_pos ⟨c1, ⟨by omega, c3⟩, ⟨by omega, c4⟩, by omega, c5⟩, if_pos ⟨cv, by omega⟩]
      · exact e'.symm

theorem wd_app_le : ∀ (n : Nat) (a b : List UInt8), a.length ≤ n → wd (a ++ b) ≤ wd a + wd b
  | n, [], b, _ => by rw [List.nil_append, wd_nil]; omega
  | 0, x :: a, b, h => by simp at h
  | n + 1, x :: a, b, h => by
    have ha : x :: a ≠ [] := by simp
    rcases dec_app (x :: a) b ha with ⟨e, hl⟩ | ⟨e, hl, hl2, hc⟩
    · have hz := Lib.decodeL_width (x :: a)
      rw [wd_step (l := x :: a ++ b) (by simp), wd_step (l := x :: a) ha, e, List.drop_append_of_le_length hl]
      have := wd_app_le n ((x :: a).drop (decodeL (x :: a)).2) b (by rw [List.length_drop]; omega)
      omega
    · obtain ⟨m, hm⟩ : ∃ m, m = (decodeL (x :: a ++ b)).2 := ⟨_, rfl⟩
      rw [← hm] at hl hl2 hc
      have hr := width_range (decodeL (x :: a ++ b)).1
      have h2 : (2 : Int) ≤ m := by rw [List.length_cons] at hl; omega
      have hA : wd (x :: a) = (x :: a).length := by
        rw [wd_step ha, e]
        show width 65533 + wd a = _
        have := wd_conts a [] (by
          intro y hy
          obtain ⟨j, hj, rfl⟩ := List.getElem_of_mem hy
          have := hc (j + 1) (by omega) (by rw [List.length_cons] at hl; omega)
          rw [List.cons_append, List.getD_cons_succ, List.getD_eq_getElem?_getD, List.getElem?_append_left hj, List.getElem?_eq_getElem hj] at this
          exact this)
        rw [List.append_nil, wd_nil] at this
        rw [this, List.length_cons]
        have : width 65533 = 1 := by decide
        omega
      have hlen : (x :: a ++ b).length = (x :: a).length + b.length := List.length_append
      have hB : wd b = ((m - (x :: a).length : Nat) : Int) + wd (b.drop (m - (x :: a).length)) := by
        have := wd_conts (b.take (m - (x :: a).length)) (b.drop (m - (x :: a).length)) (by
          intro y hy
          obtain ⟨j, hj, rfl⟩ := List.getElem_of_mem hy
          rw [List.length_take] at hj
          have := hc ((x :: a).length + j) (by rw [List.length_cons]; omega) (by omega)
          rw [List.getD_eq_getElem?_getD, List.getElem?_append_right (by omega), Nat.add_sub_cancel_left, List.getElem?_eq_getElem (by omega)] at this
          rw [List.getElem_take]
          exact this)
        rw [List.take_append_drop, List.length_take] at this
        rw [this]
        congr 2
        omega
      rw [wd_step (l := x :: a ++ b) (by simp), ← hm, hA, hB, List.drop_append, List.drop_eq_nil_of_le (by omega), List.nil_append]
      omega
theorem wd_app_nl : ∀ (n : Nat) (a b : List UInt8), a.length ≤ n → wd (a ++ 10 :: b) = wd a + wd b
  | n, [], b, _ => by
    rw [List.nil_append, wd_nil, wd_step (by simp), Lib.decodeL_ascii 10 b (by decide)]
    show width 10 + wd b = _
    have : width 10 = 0 := by decide
    omega
  | 0, x :: a, b, h => by simp at h
  | n + 1, x :: a, b, h => by
    have ha : x :: a ≠ [] := by simp
    rcases dec_app (x :: a) (10 :: b) ha with ⟨e, hl⟩ | ⟨e, hl, hl2, hc⟩
    · have hz := Lib.decodeL_width (x :: a)
      rw [wd_step (l := x :: a ++ 10 :: b) (by simp), wd_step (l := x :: a) ha, e, List.drop_append_of_le_length hl]
      have := wd_app_nl n ((x :: a).drop (decodeL (x :: a)).2) b (by rw [List.length_drop]; omega)
      omega
    · have := hc (x :: a).length (by rw [List.length_cons]; omega) hl
      rw [List.getD_eq_getElem?_getD, List.getElem?_append_right (Nat.le_refl _), Nat.sub_self] at this
      exact absurd (show (10 : UInt8).toNat / 64 = 2 from this) (by decide)

end Go.Proofs.YtlooemhaoikidaaDoor
