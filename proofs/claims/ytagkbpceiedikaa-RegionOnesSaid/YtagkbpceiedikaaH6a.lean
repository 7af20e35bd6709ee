/-
  The document's forms, band by band: plain lists.
-/
import Derived.Test.YtagkbpceiedikaaH5
import Derived.Test.YtagkbpceiedikaaGZ
import Derived.Test.YtagkbpceiedikaaGL
namespace Go.Proofs.Ytagkbpceiedikaa

theorem bandsF_step (row : Int → List Sp) {ys : List Int} {k : Nat} (h : k + 1 < ys.length) (acc : List Bd) : bandsF row (ys.drop k) acc = bandsF row (ys.drop (k + 1)) (bandS (row ys[k]) ys[k] ys[k + 1] acc) := by
  rw [List.drop_eq_getElem_cons (show k < ys.length by omega), List.drop_eq_getElem_cons h, bandsF]
theorem bandsF_done (row : Int → List Sp) {ys : List Int} {k : Nat} (h : ¬ k + 1 < ys.length) (acc : List Bd) : bandsF row (ys.drop k) acc = acc := by
  have : (ys.drop k).length ≤ 1 := by rw [List.length_drop]; omega
  match hx : ys.drop k, this with
  | [], _ => rfl
  | [_], _ => rfl
  | _ :: _ :: _, h => simp at h
theorem lastS_new {sp : List Sp} {t b : Int} {acc : List Bd} (hb : BanR t acc) (ht : t < b) : lastS (bandS sp t b acc) b = sp := by
  by_cases h0 : sp = []
  · subst h0
    rw [bandS_none]
    exact lastS_high hb ht
  · by_cases c : sp = lastS acc t
    · obtain ⟨d, ds, _, _, _, e⟩ := bandS_alike (b := b) c h0
      rw [e, lastS, if_pos rfl]
    · rw [bandS_other c h0, lastS, if_pos rfl]
theorem flatB_other {sp : List Sp} {t b : Int} {acc : List Bd} (h : sp ≠ lastS acc t) : flatB (bandS sp t b acc) = flatB acc ++ rcts (t, b, sp) := by
  by_cases h0 : sp = []
  · subst h0
    rw [bandS_none]
    simp [rcts]
  · rw [bandS_other h h0, flatB_cons]
def grw (z : Int) (r : Rc) : Rc := ⟨r.x, r.y, r.w, r.h + z⟩
/-- The last m rectangles grown. -/
def upd (L : List Rc) (m : Nat) (z : Int) : List Rc := L.take (L.length - m) ++ (L.drop (L.length - m)).map (grw z)
theorem upd_len (L : List Rc) (m : Nat) (z : Int) : (upd L m z).length = L.length := by
  unfold upd
  rw [List.length_append, List.length_map, ← List.length_append, List.take_append_drop]
theorem upd_zero (L : List Rc) (z : Int) : upd L 0 z = L := by
  unfold upd
  simp
theorem upd_step (L : List Rc) {m j : Nat} (z : Int) (hj : j + 1 + m = L.length) : upd L m z = L.take j ++ L[j]'(by omega) :: (L.drop (j + 1)).map (grw z) ∧ upd L (m + 1) z = L.take j ++ grw z (L[j]'(by omega)) :: (L.drop (j + 1)).map (grw z) := by
  unfold upd
  have e1 : L.length - m = j + 1 := by omega
  have e2 : L.length - (m + 1) = j := by omega
  rw [e1, e2]
  constructor
  · rw [← List.take_append_getElem (show j < L.length by omega), List.append_assoc]
    rfl
  · rw [List.drop_eq_getElem_cons (show j < L.length by omega)]
    rfl
theorem flatB_alike {sp : List Sp} {t b : Int} {acc : List Bd} (h : sp = lastS acc t) : flatB (bandS sp t b acc) = upd (flatB acc) sp.length (b - t) ∧ sp.length ≤ (flatB acc).length := by
  by_cases h0 : sp = []
  · subst h0
    rw [bandS_none]
    exact ⟨(upd_zero _ _).symm, Nat.zero_le _⟩
  · obtain ⟨d, ds, rfl, h1, h2, e⟩ := bandS_alike (b := b) h h0
    rw [e, flatB_cons, flatB_cons]
    have hl : (rcts d).length = sp.length := by rw [rcts_len, h2]
    refine ⟨?_, by rw [List.length_append, hl]; omega⟩
    unfold upd
    have e1 : (flatB ds ++ rcts d).length - sp.length = (flatB ds).length := by rw [List.length_append, hl]; omega
    rw [e1, List.take_left', List.drop_left']
    · congr 1
      unfold rcts
      rw [List.map_map, h2]
      refine List.map_congr_left fun s _ => ?_
      simp only [Function.comp, grw]
      congr 1
      omega
    · rfl
    · rfl
theorem flatB_made {sp : List Sp} {t b : Int} {acc : List Bd} : (flatB acc).length ≤ (flatB (bandS sp t b acc)).length := bandS_lenD sp t b acc
/-- The form, by the document's edges. -/
theorem form_doc {a b : List Rc} (ha : Mays a) (hb : Mays b) (what : Int) : formF (wK what) (wA what a b) (wB what b) = flatB (bandsF (rowW (wK what) (wA what a b) (wB what b)) (edTwo true 0 a b) []) := by
  unfold formF bandsR
  rw [edges_doc ha hb what 0]
theorem edge_bd {a b : List Rc} (ha : Mays a) (hb : Mays b) (n : Int) (h : n ∈ edTwo true 0 a b) : -16384 ≤ n ∧ n ≤ 16384 := by
  rcases (edTwo_mem true 0 a b n).1 h with ⟨r, hr, h⟩ | ⟨r, hr, h⟩
  · have b := may_iff.1 (ha r hr)
    unfold isEd at h
    simp at h
    omega
  · have b := may_iff.1 (hb r hr)
    unfold isEd at h
    simp at h
    omega
theorem row_bd (k : Bool) (a b : List Rc) (y : Int) : ∀ s ∈ rowW k a b y, -16384 ≤ s.1 ∧ s.1 < s.2 ∧ s.2 ≤ 16384 := by
  intro s hs
  obtain ⟨h1, h2⟩ := rowW_can k a b y
  obtain ⟨c1, c2⟩ := Can.ge h1 s hs
  have : inS (rowW k a b y) (s.2 - 1) := ⟨s, hs, by omega, by omega⟩
  have q := ((h2 _).1 this).1
  have := cov_in q
  exact ⟨c1, c2, by omega⟩
theorem row_len (what : Int) (a b : List Rc) (y : Int) : (rowW (wK what) (wA what a b) (wB what b) y).length ≤ a.length + b.length := by
  have h := row_count (wK what) (wA what a b) (wB what b) y
  have h2 := List.length_filter_le (actB y) (wA what a b ++ wB what b)
  have h3 : (wA what a b ++ wB what b).length = a.length + b.length := by
    unfold wA wB
    split <;> simp
  omega
/-- Bands within the places that there are. -/
def InB (l : List Bd) : Prop := ∀ d ∈ l, -16384 ≤ d.1 ∧ d.2.1 ≤ 16384 ∧ d.1 < d.2.1
theorem inB_step {sp : List Sp} {t b : Int} {acc : List Bd} (h : InB acc) (ht : -16384 ≤ t) (hb : b ≤ 16384) (htb : t < b) : InB (bandS sp t b acc) := by
  cases acc with
  | nil =>
    rw [bandS]
    split
    · exact h
    · intro d hd
      simp at hd
      subst hd
      exact ⟨ht, hb, htb⟩
  | cons e es =>
    rw [bandS]
    split
    · exact h
    · split
      · next c =>
        intro d hd
        rcases List.mem_cons.1 hd with rfl | hd
        · have := h e (by simp)
          exact ⟨this.1, hb, by simp; omega⟩
        · exact h d (by simp [hd])
      · intro d hd
        rcases List.mem_cons.1 hd with rfl | hd
        · exact ⟨ht, hb, htb⟩
        · exact h d hd
theorem inB_h {acc : List Bd} (h : InB acc) : ∀ r ∈ flatB acc, 0 ≤ r.h ∧ r.h ≤ 32768 := by
  intro r hr
  obtain ⟨d, hd, s, _, rfl⟩ := (flat_mem acc r).1 hr
  have := h d hd
  simp
  omega

end Go.Proofs.Ytagkbpceiedikaa
