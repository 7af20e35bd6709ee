/-
  Texts of this claim, one behind the other: what each is about stands ahead of it.
-/
import Derived.Test.YtbghjmkgicdnoaaK1
import Derived.Test.YtbghjmkgicdnoaaK2
import Derived.Test.YtbghjmkgicdnoaaK13
import Derived.Laws.CopyOwn
/-
  The document's way of a form, in plain lists: edges, the spans between them, row by row.
-/
namespace Go.Proofs.Ytbghjmkgicdnoaa

def emD (r : Rc) : Bool := r.w == 0 || r.h == 0
theorem keep_emD {r : Rc} (h : mayB r.x r.y r.w r.h = true) : keepE r = !emD r := by
  simp [keepE, emptyB, emD, h]
theorem emD_pos {r : Rc} (h : mayB r.x r.y r.w r.h = true) : emD r = false ↔ 0 < r.w ∧ 0 < r.h := by
  have b := may_bd h
  unfold emD
  simp
  omega
/-- One rectangle's edges, along Y or along X of a row. -/
def edS (down : Bool) (y : Int) (r : Rc) (acc : List Int) : List Int := if emD r = true then acc else if down = true then insU (r.y + r.h) (insU r.y acc) else if r.y ≤ y ∧ y < r.y + r.h then insU (r.x + r.w) (insU r.x acc) else acc
def edF (down : Bool) (y : Int) : List Rc → List Int → List Int
  | [], acc => acc
  | r :: t, acc => edF down y t (edS down y r acc)
theorem insU_lenD (n : Int) : ∀ l : List Int, (insU n l).length ≤ l.length + 1
  | [] => by simp [insU]
  | m :: t => by
    rw [insU]
    split
    · simp
    · split
      · simp
      · have := insU_lenD n t
        simp
        omega
theorem edS_len (down : Bool) (y : Int) (r : Rc) (acc : List Int) : (edS down y r acc).length ≤ acc.length + 2 := by
  have h1 := insU_lenD r.y acc
  have h2 := insU_lenD (r.y + r.h) (insU r.y acc)
  have h3 := insU_lenD r.x acc
  have h4 := insU_lenD (r.x + r.w) (insU r.x acc)
  unfold edS
  split
  · omega
  · split
    · omega
    · split <;> omega
theorem ed_len (down : Bool) (y : Int) : ∀ (l : List Rc) (acc : List Int), (edF down y l acc).length ≤ acc.length + 2 * l.length
  | [], acc => by simp [edF]
  | r :: t, acc => by
    have h1 := edS_len down y r acc
    have h2 := ed_len down y t (edS down y r acc)
    rw [edF, List.length_cons]
    omega
theorem edS_inc (down : Bool) (y : Int) (r : Rc) {acc : List Int} (h : Inc acc) : Inc (edS down y r acc) := by
  unfold edS
  split
  · exact h
  · split
    · exact insU_inc _ (insU_inc _ h)
    · split
      · exact insU_inc _ (insU_inc _ h)
      · exact h
theorem ed_inc (down : Bool) (y : Int) : ∀ (l : List Rc) {acc : List Int}, Inc acc → Inc (edF down y l acc)
  | [], _, h => h
  | r :: t, _, h => ed_inc down y t (edS_inc down y r h)
def isEd (down : Bool) (y : Int) (r : Rc) (n : Int) : Prop := emD r = false ∧ (if down = true then n = r.y ∨ n = r.y + r.h else (r.y ≤ y ∧ y < r.y + r.h) ∧ (n = r.x ∨ n = r.x + r.w))
theorem edS_mem (down : Bool) (y : Int) (r : Rc) (acc : List Int) (n : Int) : n ∈ edS down y r acc ↔ n ∈ acc ∨ isEd down y r n := by
  unfold edS isEd
  by_cases h : emD r = true
  · rw [if_pos h]; simp [h]
  · rw [if_neg h]
    have h' : emD r = false := by simpa using h
    by_cases d : down = true
    · rw [if_pos d, if_pos d, insU_mem, insU_mem]
      constructor
      · rintro (e | e | e)
        · exact .inr ⟨h', .inr e⟩
        · exact .inr ⟨h', .inl e⟩
        · exact .inl e
      · rintro (e | ⟨_, e | e⟩)
        · exact .inr (.inr e)
        · exact .inr (.inl e)
        · exact .inl e
    · rw [if_neg d, if_neg d]
      by_cases c : r.y ≤ y ∧ y < r.y + r.h
      · rw [if_pos c, insU_mem, insU_mem]
        constructor
        · rintro (e | e | e)
          · exact .inr ⟨h', c, .inr e⟩
          · exact .inr ⟨h', c, .inl e⟩
          · exact .inl e
        · rintro (e | ⟨_, _, e | e⟩)
          · exact .inr (.inr e)
          · exact .inr (.inl e)
          · exact .inl e
      · rw [if_neg c]
        constructor
        · exact fun e => .inl e
        · rintro (e | ⟨_, e, _⟩)
          · exact e
          · exact absurd e c
theorem ed_mem (down : Bool) (y n : Int) : ∀ (l : List Rc) (acc : List Int), n ∈ edF down y l acc ↔ n ∈ acc ∨ ∃ r ∈ l, isEd down y r n
  | [], acc => by simp [edF]
  | r :: t, acc => by
    rw [edF, ed_mem down y n t, edS_mem]
    simp only [List.mem_cons, exists_eq_or_imp]
    exact or_assoc
/-- The edges of two lists. -/
def edTwo (down : Bool) (y : Int) (a b : List Rc) : List Int := edF down y b (edF down y a [])
theorem edTwo_inc (down : Bool) (y : Int) (a b : List Rc) : Inc (edTwo down y a b) := ed_inc _ _ _ (ed_inc _ _ _ trivial)
theorem edTwo_mem (down : Bool) (y : Int) (a b : List Rc) (n : Int) : n ∈ edTwo down y a b ↔ (∃ r ∈ a, isEd down y r n) ∨ ∃ r ∈ b, isEd down y r n := by
  unfold edTwo
  rw [ed_mem, ed_mem]
  simp
theorem edTwo_len (down : Bool) (y : Int) (a b : List Rc) : (edTwo down y a b).length ≤ 2 * (a.length + b.length) := by
  have h1 := ed_len down y a []
  have h2 := ed_len down y b (edF down y a [])
  unfold edTwo
  simp at h1
  omega
def hsB (r : Rc) (x y : Int) : Bool := decide (r.x ≤ x) && (decide (x < r.x + r.w) && (decide (r.y ≤ y) && decide (y < r.y + r.h)))
theorem hsB_iff (r : Rc) (x y : Int) : hsB r x y = true ↔ r.x ≤ x ∧ x < r.x + r.w ∧ r.y ≤ y ∧ y < r.y + r.h := by simp [hsB]
def hsD (l : List Rc) (x y : Int) : Bool := l.any fun r => hsB r x y
def Mays (l : List Rc) : Prop := ∀ r ∈ l, mayB r.x r.y r.w r.h = true
theorem hsD_iff {l : List Rc} (h : Mays l) (x y : Int) : hsD l x y = true ↔ cov l x y := by
  unfold hsD cov
  rw [List.any_eq_true]
  constructor
  · rintro ⟨r, hr, hx⟩
    have hx' := (hsB_iff r x y).1 hx
    refine ⟨r, hr, ?_, hx'.1, hx'.2.1, hx'.2.2.1, hx'.2.2.2⟩
    rw [keep_emD (h r hr), (emD_pos (h r hr)).2 (by omega)]
    rfl
  · rintro ⟨r, hr, _, h1, h2, h3, h4⟩
    exact ⟨r, hr, (hsB_iff r x y).2 ⟨h1, h2, h3, h4⟩⟩
def kpD (what : Int) (one other : Bool) : Bool := if what = 1 then one || other else if what = 2 then one && other else one && !other
def wK (what : Int) : Bool := decide (what = 2)
def wA (what : Int) (a b : List Rc) : List Rc := if what = 1 then a ++ b else a
def wB (what : Int) (b : List Rc) : List Rc := if what = 1 then [] else b
theorem kp_iff {a b : List Rc} (ha : Mays a) (hb : Mays b) (what x y : Int) : kpD what (hsD a x y) (hsD b x y) = true ↔ keepP (wK what) (cov (wA what a b) x y) (cov (wB what b) x y) := by
  unfold kpD wK wA wB keepP
  by_cases h1 : what = 1
  · subst h1
    simp only [if_true, Bool.or_eq_true, hsD_iff ha, hsD_iff hb, cov_app]
    simp [cov_nil]
  · rw [if_neg h1, if_neg h1, if_neg h1]
    by_cases h2 : what = 2
    · subst h2
      simp [hsD_iff ha, hsD_iff hb]
    · rw [if_neg h2]
      have hb' : hsD b x y = false ↔ ¬ cov b x y := by rw [← hsD_iff hb]; simp
      simp [hsD_iff ha, hb', h2]
/-- The spans of a row: between edges, side by side ones joined. -/
def spF (p : Int → Bool) : List Int → List Sp → List Sp
  | x :: x' :: t, acc => spF p (x' :: t) (if p x = true then runA acc x x' else acc)
  | _, acc => acc
def inP (p : Int → Bool) : List Int → Int → Prop
  | x :: x' :: t, z => (x ≤ z ∧ z < x' ∧ p x = true) ∨ inP p (x' :: t) z
  | _, _ => False
theorem sp_can (p : Int → Bool) (a0 : Int) : ∀ (xs : List Int) (acc : List Sp), Inc xs → Can a0 acc → (∀ x ∈ xs, a0 ≤ x ∧ lastB acc x) → Can a0 (spF p xs acc) ∧ ∀ z, inS (spF p xs acc) z ↔ inS acc z ∨ inP p xs z
  | [], acc, _, hc, _ => ⟨by simpa [spF] using hc, fun z => by simp [spF, inP]⟩
  | [x], acc, _, hc, _ => ⟨by simpa [spF] using hc, fun z => by simp [spF, inP]⟩
  | x :: x' :: t, acc, hi, hc, hx => by
    rw [spF]
    have hlt : x < x' := hi.1 x' (by simp)
    by_cases c : p x = true
    · rw [if_pos c]
      obtain ⟨r1, r2, r3⟩ := runA_can hc (hx x (by simp)).1 hlt (hx x (by simp)).2
      obtain ⟨q1, q2⟩ := sp_can p a0 (x' :: t) (runA acc x x') hi.2 r1 (fun q hq => ⟨(hx q (by simp only [List.mem_cons] at hq ⊢; exact .inr hq)).1, lastB_mono r2 (by have := hi.1 q hq; omega)⟩)
      refine ⟨q1, fun z => ?_⟩
      rw [q2, r3, inP]
      constructor
      · rintro ((h | h) | h)
        · exact .inl h
        · exact .inr (.inl ⟨h.1, h.2, c⟩)
        · exact .inr (.inr h)
      · rintro (h | h | h)
        · exact .inl (.inl h)
        · exact .inl (.inr ⟨h.1, h.2.1⟩)
        · exact .inr h
    · rw [if_neg c]
      obtain ⟨q1, q2⟩ := sp_can p a0 (x' :: t) acc hi.2 hc (fun q hq => hx q (by simp only [List.mem_cons] at hq ⊢; exact .inr hq))
      refine ⟨q1, fun z => ?_⟩
      rw [q2, inP]
      constructor
      · rintro (h | h)
        · exact .inl h
        · exact .inr (.inr h)
      · rintro (h | h | h)
        · exact .inl h
        · exact absurd h.2.2 c
        · exact .inr h
theorem inP_low (p : Int → Bool) : ∀ (t : List Int) (x z : Int), Inc (x :: t) → inP p (x :: t) z → x ≤ z ∧ ∃ b ∈ t, z < b
  | [], x, z, _, h => by simp [inP] at h
  | x' :: t, x, z, hi, h => by
    rw [inP] at h
    have hlt : x < x' := hi.1 x' (by simp)
    rcases h with h | h
    · exact ⟨h.1, x', by simp, h.2.1⟩
    · obtain ⟨h1, b, hb, h2⟩ := inP_low p t x' z hi.2 h
      exact ⟨by omega, b, by simp [hb], h2⟩
theorem inP_mid (p : Int → Bool) : ∀ (t : List Int) (x z : Int), Inc (x :: t) → x ≤ z → (∃ b ∈ t, z < b) → ∃ e ∈ x :: t, e ≤ z ∧ (∀ n ∈ x :: t, n ≤ z → n ≤ e) ∧ (inP p (x :: t) z ↔ p e = true)
  | [], x, z, _, _, h => by simp at h
  | x' :: t, x, z, hi, hx, hb => by
    have hlt : x < x' := hi.1 x' (by simp)
    by_cases c : z < x'
    · refine ⟨x, by simp, hx, ?_, ?_⟩
      · intro n hn hz
        rcases List.mem_cons.1 hn with rfl | hn
        · omega
        · rcases List.mem_cons.1 hn with rfl | hn
          · omega
          · have := hi.2.1 n hn; omega
      · rw [inP]
        constructor
        · rintro (h | h)
          · exact h.2.2
          · have := (inP_low p t x' z hi.2 h).1; omega
        · exact fun h => .inl ⟨hx, c, h⟩
    · have hb' : ∃ b ∈ t, z < b := by
        obtain ⟨b, hb, h⟩ := hb
        rcases List.mem_cons.1 hb with rfl | hb
        · omega
        · exact ⟨b, hb, h⟩
      obtain ⟨e, he, h1, h2, h3⟩ := inP_mid p t x' z hi.2 (by omega) hb'
      refine ⟨e, by simp only [List.mem_cons] at he ⊢; exact .inr he, h1, ?_, ?_⟩
      · intro n hn hz
        rcases List.mem_cons.1 hn with rfl | hn
        · have := h2 x' (by simp) (by omega); omega
        · exact h2 n hn hz
      · rw [inP, ← h3]
        constructor
        · rintro (h | h)
          · omega
          · exact h
        · exact fun h => .inr h
theorem hsD_step {l : List Rc} (hm : Mays l) {y e z : Int} (hz : e ≤ z) (h : ∀ r ∈ l, ∀ n, isEd false y r n → n ≤ z → n ≤ e) : hsD l z y = hsD l e y := by
  have key : ∀ r ∈ l, hsB r z y = hsB r e y := by
    intro r hr
    rw [Bool.eq_iff_iff, hsB_iff, hsB_iff]
    have q := h r hr
    unfold isEd at q
    have ep := emD_pos (hm r hr)
    constructor
    · rintro ⟨h1, h2, h3, h4⟩
      have := q r.x ⟨ep.2 (by omega), by simp; omega⟩ h1
      exact ⟨this, by omega, h3, h4⟩
    · rintro ⟨h1, h2, h3, h4⟩
      refine ⟨by omega, ?_, h3, h4⟩
      rcases Int.lt_or_le z (r.x + r.w) with c | c
      · exact c
      · have := q (r.x + r.w) ⟨ep.2 (by omega), by simp; omega⟩ c
        omega
  unfold hsD
  rw [Bool.eq_iff_iff, List.any_eq_true, List.any_eq_true]
  constructor
  · rintro ⟨r, hr, hx⟩; exact ⟨r, hr, by rw [← key r hr]; exact hx⟩
  · rintro ⟨r, hr, hx⟩; exact ⟨r, hr, by rw [key r hr]; exact hx⟩
theorem hsD_edge {l : List Rc} (hm : Mays l) {y z : Int} (h : hsD l z y = true) : ∃ r ∈ l, isEd false y r r.x ∧ isEd false y r (r.x + r.w) ∧ r.x ≤ z ∧ z < r.x + r.w := by
  unfold hsD at h
  obtain ⟨r, hr, hx⟩ := List.any_eq_true.1 h
  obtain ⟨h1, h2, h3, h4⟩ := (hsB_iff r z y).1 hx
  have ep := (emD_pos (hm r hr)).2 (by omega)
  refine ⟨r, hr, ?_, ?_, h1, h2⟩
  · unfold isEd; exact ⟨ep, by simp; omega⟩
  · unfold isEd; exact ⟨ep, by simp; omega⟩
theorem kpD_or {what : Int} {o t : Bool} (h : kpD what o t = true) : o = true ∨ t = true := by
  unfold kpD at h
  split at h
  · simpa using h
  · split at h
    · simp at h; exact .inl h.1
    · simp at h; exact .inl h.1
theorem row_doc {a b : List Rc} (ha : Mays a) (hb : Mays b) (what y : Int) : spF (fun x => kpD what (hsD a x y) (hsD b x y)) (edTwo false y a b) [] = rowW (wK what) (wA what a b) (wB what b) y := by
  have hi := edTwo_inc false y a b
  have hmem := edTwo_mem false y a b
  have hlo : ∀ x ∈ edTwo false y a b, (-16384 : Int) ≤ x ∧ lastB [] x := by
    intro x hx
    refine ⟨?_, trivial⟩
    rcases (hmem x).1 hx with ⟨r, hr, h⟩ | ⟨r, hr, h⟩
    · have b := may_bd (ha r hr); unfold isEd at h; simp at h; omega
    · have b := may_bd (hb r hr); unfold isEd at h; simp at h; omega
  obtain ⟨c1, c2⟩ := sp_can (fun x => kpD what (hsD a x y) (hsD b x y)) (-16384) _ [] hi trivial hlo
  refine can_unique c1 (rowW_can _ _ _ y).1 fun z => ?_
  rw [c2, (rowW_can _ _ _ y).2, ← kp_iff ha hb]
  have he : ∀ {z : Int}, kpD what (hsD a z y) (hsD b z y) = true → ∃ u v, u ∈ edTwo false y a b ∧ v ∈ edTwo false y a b ∧ u ≤ z ∧ z < v := by
    intro z h
    rcases kpD_or h with h | h
    · obtain ⟨r, hr, h1, h2, h3, h4⟩ := hsD_edge ha h
      exact ⟨_, _, (hmem _).2 (.inl ⟨r, hr, h1⟩), (hmem _).2 (.inl ⟨r, hr, h2⟩), h3, h4⟩
    · obtain ⟨r, hr, h1, h2, h3, h4⟩ := hsD_edge hb h
      exact ⟨_, _, (hmem _).2 (.inr ⟨r, hr, h1⟩), (hmem _).2 (.inr ⟨r, hr, h2⟩), h3, h4⟩
  have hst : ∀ {e z : Int}, e ≤ z → (∀ n ∈ edTwo false y a b, n ≤ z → n ≤ e) → kpD what (hsD a z y) (hsD b z y) = kpD what (hsD a e y) (hsD b e y) := by
    intro e z h1 h2
    rw [hsD_step ha h1 fun r hr n hn => h2 n ((hmem n).2 (.inl ⟨r, hr, hn⟩)), hsD_step hb h1 fun r hr n hn => h2 n ((hmem n).2 (.inr ⟨r, hr, hn⟩))]
  clear hlo c1 c2
  generalize edTwo false y a b = xs at *
  cases xs with
  | nil =>
    constructor
    · rintro (h | h)
      · exact absurd h (inS_nil z)
      · simp [inP] at h
    · intro h
      obtain ⟨u, _, hu, _⟩ := he h
      simp at hu
  | cons x t =>
    by_cases c : x ≤ z ∧ ∃ b ∈ t, z < b
    · obtain ⟨e, _, h1, h2, h3⟩ := inP_mid (fun x => kpD what (hsD a x y) (hsD b x y)) t x z hi c.1 c.2
      rw [h3, hst h1 h2]
      exact ⟨fun h => h.resolve_left (inS_nil z), .inr⟩
    · constructor
      · rintro (h | h)
        · exact absurd h (inS_nil z)
        · exact absurd (inP_low _ t x z hi h) c
      · intro h
        obtain ⟨u, v, hu, hv, h1, h2⟩ := he h
        refine absurd ?_ c
        have hx : x ≤ z := by
          rcases List.mem_cons.1 hu with rfl | hu
          · exact h1
          · have := hi.1 u hu; omega
        refine ⟨hx, ?_⟩
        rcases List.mem_cons.1 hv with rfl | hv
        · omega
        · exact ⟨v, hv, h2⟩
theorem edges_doc {a b : List Rc} (ha : Mays a) (hb : Mays b) (what : Int) (y : Int) : edTwo true y a b = edgesF (wA what a b ++ wB what b) := by
  refine inc_unique (edTwo_inc _ _ _ _) (edges_inc _).1 fun n => ?_
  rw [(edges_inc _).2, edTwo_mem]
  have key : ∀ {l : List Rc}, Mays l → ((∃ r ∈ l, isEd true y r n) ↔ isEdge l n) := by
    intro l hl
    unfold isEdge isEd
    simp only [if_true]
    constructor
    · rintro ⟨r, hr, h1, h2⟩
      exact ⟨r, hr, by rw [keep_emD (hl r hr), h1]; rfl, h2⟩
    · rintro ⟨r, hr, h1, h2⟩
      exact ⟨r, hr, by rw [keep_emD (hl r hr)] at h1; simpa using h1, h2⟩
  rw [key ha, key hb]
  unfold wA wB
  by_cases h : what = 1
  · rw [if_pos h, if_pos h, List.append_nil, isEdge_app]
  · rw [if_neg h, if_neg h, isEdge_app]
/-- The spans of the band that ends here. -/
def lastS : List Bd → Int → List Sp
  | [], _ => []
  | d :: _, t => if d.2.1 = t then d.2.2 else []
theorem flatB_cons (d : Bd) (ds : List Bd) : flatB (d :: ds) = flatB ds ++ rcts d := by
  simp [flatB]
theorem rcts_len (d : Bd) : (rcts d).length = d.2.2.length := by simp [rcts]
theorem bandS_lenD (sp : List Sp) (t b : Int) (acc : List Bd) : (flatB acc).length ≤ (flatB (bandS sp t b acc)).length := by
  cases acc with
  | nil => simp [flatB]
  | cons d ds =>
    rw [bandS]
    split
    · exact Nat.le_refl _
    · split
      · rw [flatB_cons, flatB_cons, List.length_append, List.length_append, rcts_len, rcts_len]; exact Nat.le_refl _
      · rw [flatB_cons (t, b, sp)]; simp
theorem bandsF_lenD (row : Int → List Sp) : ∀ (ys : List Int) (acc : List Bd), (flatB acc).length ≤ (flatB (bandsF row ys acc)).length
  | [], acc => by simp [bandsF]
  | [_], acc => by simp [bandsF]
  | t :: b :: rest, acc => by
    rw [bandsF]
    exact Nat.le_trans (bandS_lenD _ _ _ _) (bandsF_lenD row (b :: rest) _)
/-- What a step of the document's way makes of the bands. -/
theorem bandS_alike {sp : List Sp} {t b : Int} {acc : List Bd} (h : sp = lastS acc t) (hn : sp ≠ []) : ∃ d ds, acc = d :: ds ∧ d.2.1 = t ∧ d.2.2 = sp ∧ bandS sp t b acc = (d.1, b, sp) :: ds := by
  cases acc with
  | nil => exact absurd h hn
  | cons d ds =>
    rw [lastS] at h
    split at h
    · next c =>
      refine ⟨d, ds, rfl, c, h.symm, ?_⟩
      rw [bandS, if_neg hn, if_pos ⟨c, h.symm⟩, ← h]
    · exact absurd h hn
theorem bandS_other {sp : List Sp} {t b : Int} {acc : List Bd} (h : sp ≠ lastS acc t) (hn : sp ≠ []) : bandS sp t b acc = (t, b, sp) :: acc := by
  cases acc with
  | nil => rw [bandS, if_neg hn]
  | cons d ds =>
    rw [lastS] at h
    rw [bandS, if_neg hn, if_neg]
    rintro ⟨h1, h2⟩
    rw [if_pos h1] at h
    exact h h2.symm
theorem bandS_none (t b : Int) (acc : List Bd) : bandS [] t b acc = acc := by
  cases acc with
  | nil => simp [bandS]
  | cons d ds => simp [bandS]
theorem lastS_high {z t : Int} {acc : List Bd} (h : BanR z acc) (hz : z < t) : lastS acc t = [] := by
  cases acc with
  | nil => rfl
  | cons d ds =>
    have := h.1
    rw [lastS, if_neg (by omega)]

end Go.Proofs.Ytbghjmkgicdnoaa

/-
  Contracts of the document's answer for layer 2: May, Asked, two, empty, has, edge, edges.
-/
namespace Go.Proofs.Ytbghjmkgicdnoaa
open Go.RowKit

/-- Numbers as cells. -/
def flatI (xs : List Int) : List Value := xs.map fun n => .int .i64 n
theorem flatI_len (xs : List Int) : (flatI xs).length = xs.length := by simp [flatI]
theorem flatI_at (xs : List Int) (k : Nat) (h : k < xs.length) : (flatI xs)[k]? = some (.int .i64 xs[k]) := by simp [flatI, h]
theorem flatI_app (xs ys : List Int) : flatI (xs ++ ys) = flatI xs ++ flatI ys := by simp [flatI]
theorem info_i64d : (Try.prog.info? 3).map (fun i => (i.zero, i.size, i.bytes)) = some (some (.int .i64 0), 1, 8) := by kernel_rfl

theorem hsB_parts (r : Rc) (x y : Int) : (hsB r x y = true ∧ r.x ≤ x ∧ x < r.x + r.w ∧ r.y ≤ y ∧ y < r.y + r.h) ∨ (hsB r x y = false ∧ (¬ r.x ≤ x ∨ (r.x ≤ x ∧ ¬ x < r.x + r.w) ∨ (r.x ≤ x ∧ x < r.x + r.w ∧ ¬ r.y ≤ y) ∨ (r.x ≤ x ∧ x < r.x + r.w ∧ r.y ≤ y ∧ ¬ y < r.y + r.h))) := by
  cases h : hsB r x y
  · refine .inr ⟨rfl, ?_⟩
    have : ¬ (r.x ≤ x ∧ x < r.x + r.w ∧ r.y ≤ y ∧ y < r.y + r.h) := fun c => by rw [(hsB_iff r x y).2 c] at h; cases h
    omega
  · exact .inl ⟨rfl, (hsB_iff r x y).1 h⟩

end Go.Proofs.Ytbghjmkgicdnoaa

/-
  Contracts of the document's answer for layer 2: edge, edges.
-/
namespace Go.Proofs.Ytbghjmkgicdnoaa
open Go.RowKit

/-- Blocks that hold no numbers lie as they lay. -/
def Oth (w w' : World) : Prop := ∀ b vs t, t ≠ 3 → Bk w b vs t → Bk w' b vs t
theorem Oth.refl (w : World) : Oth w w := fun _ _ _ _ h => h
theorem Oth.trans {a b c : World} (h : Oth a b) (k : Oth b c) : Oth a c := fun x vs t ht hb => k x vs t ht (h x vs t ht hb)
theorem Oth.below {a b : World} (h : Below a.heap.size a b) : Oth a b := fun _ _ _ _ hb => hb.below h
theorem Oth.grown {W W' : World} {base size n : Nat} {u : Value} {xs : List Value} (hr : W.ownsRow base 3 size u n xs) (hg : W.grownBy W' u.ownBlock) : Oth W W' := by
  intro b vs t ht h
  refine h.grown hg ?_
  intro hb
  obtain ⟨_, hr⟩ := hr
  rcases hr with ⟨rfl, _⟩ | ⟨g, cap, cur, rfl, _, hc, _⟩
  · cases hb
  · simp [Value.ownBlock] at hb
    subst hb
    unfold Bk at h
    rw [h] at hc
    injection hc with hc
    injection hc with _ h2
    exact ht h2
theorem Bk.typ {w : World} {g : Nat} {cs ds : Array Value} {t t' : TypeId} (h : Bk w g cs t) (k : Bk w g ds t') : t = t' := by
  unfold Bk at h k
  rw [h] at k
  injection k with k
  injection k
theorem Oth.but {w w' : World} {g : Nat} {cs : Array Value} (hg : Bk w g cs 3) (h : ∀ b, b ≠ g → w'.heap[b]? = w.heap[b]?) : Oth w w' := by
  intro b vs t ht hb
  have : b ≠ g := by
    rintro rfl
    exact ht (hb.typ hg)
  exact (h b this).trans hb
theorem Oth.set {w : World} {g : Nat} {cs : Array Value} (hg : Bk w g cs 3) (o : Nat) (v : Value) : Oth w (w.setCell ⟨g, o, none⟩ v) := by
  intro b vs t ht hb
  refine hb.other _ _ ?_
  rintro rfl
  exact ht (hb.typ hg)
/-- A copy within a row that is known whole, in a region; what lies elsewhere stays. -/
theorem step_copy_mine {P : Program} {ops : Array Oper} {o : Oper} {a : Act} {w : World} {K : Act → World → Prop} {Q : Exit → Act → World → Prop} {E : Prop} (hgd : o.guard = none) (d s : Operand) (dT sT : TypeId)
    (ho : o.op = .call { callee := .builtin .copy, args := #[d, s], argTypes := #[dT, sT] }) (elem : TypeId) (hu : P.underlying dT = some (.slice elem)) (hsz : (P.info? elem).map (·.size) = some 1)
    (dp sp : Option Addr) (dLen dCap sLen sCap : Nat) (hd : a.eval d = .slice dp dLen dCap) (hs : a.eval s = .slice sp sLen sCap)
    (g off : Nat) (cur : List Value) (t : TypeId) (hg : w.heap[g]? = some (.cells cur.toArray t (0, 0))) (cs : List Value) (hn : cs.length = Nat.min sLen dLen)
    (hpos : 0 < cs.length → dp = some ⟨g, off, none⟩ ∧ ∃ ad, sp = some ad ∧ ∀ j v, cs[j]? = some v → w.cell? (ad.add j) = some v)
    (hfit : off + cs.length ≤ cur.length) (h1 : ∀ v ∈ cs, v.oneCell' = true) (B : Nat) (w0 : World) (hb : Below B w0 w) (hBg : B ≤ g)
    (h : ∀ w', Hid (w'.heap[g]? = some (.cells (splice cur off cs).toArray t (0, 0)) ∧ Below B w0 w' ∧ ∀ b, b ≠ g → w'.heap[b]? = w.heap[b]?) → K (a.put o.dst (goInt cs.length)) w') :
    if Region.wanted o (yielded ops a.tmps) = true then Oper.wp P o a w K Q else E := by
  have hw : Region.wanted o (yielded ops a.tmps) = true := by simp [Region.wanted, hgd]
  rw [if_pos hw]
  by_cases h0 : cs.length = 0
  · obtain rfl : cs = [] := List.eq_nil_of_length_eq_zero h0
    have hrun := run_copy_none (P := P) w dT sT o.type elem dp sp dLen dCap sLen sCap hu hsz (by simpa using hn.symm)
    unfold Oper.wp
    simp [execOp, ho, resolve, invoke, builtin, hd, hs, hrun, Result.andThen]
    exact h w ⟨by simpa [splice] using hg, hb, fun _ _ => rfl⟩
  · obtain ⟨rfl, ad, rfl, hsrc⟩ := hpos (by omega)
    have hrun := run_copy_row (P := P) w dT sT o.type elem g off dLen dCap ad sLen sCap cur.toArray t cs hu hsz hg hn hsrc (by simpa using hfit) h1
    unfold Oper.wp
    simp [execOp, ho, resolve, invoke, builtin, hd, hs, hrun, Result.andThen]
    exact h _ ⟨by simpa [splice] using setRow_heap w g _ _ t _ hg, below_setRow hb hBg _, fun b hb => setRow_other w g b _ hb⟩
theorem insU_at (n : Int) : ∀ (xs : List Int) (k : Nat), (∀ j (h : j < xs.length), j < k → xs[j] < n) → k ≤ xs.length → (∀ (h : k < xs.length), n < xs[k]) → insU n xs = xs.take k ++ n :: xs.drop k
  | [], k, _, hk, _ => by simp [insU]
  | m :: t, 0, _, _, h => by
    have := h (by simp)
    rw [insU, if_pos (by simpa using this)]
    simp
  | m :: t, k + 1, h1, hk, h2 => by
    have h0 := h1 0 (by simp) (by omega)
    simp at h0
    rw [insU, if_neg (by omega), if_neg (by omega), insU_at n t k (fun j hj hjk => by have := h1 (j + 1) (by simpa using hj) (by omega); simpa using this) (by simpa using hk) (fun h => by have := h2 (by simpa using h); simpa using this)]
    simp
theorem insU_same (n : Int) : ∀ (xs : List Int) (k : Nat), (∀ j (h : j < xs.length), j < k → xs[j] < n) → (h : k < xs.length) → xs[k] = n → insU n xs = xs
  | m :: t, 0, _, _, h => by
    simp at h
    rw [insU, if_neg (by omega), if_pos h.symm]
  | m :: t, k + 1, h1, hk, h2 => by
    have h0 := h1 0 (by simp) (by omega)
    simp at h0
    rw [insU, if_neg (by omega), if_neg (by omega), insU_same n t k (fun j hj hjk => by have := h1 (j + 1) (by simpa using hj) (by omega); simpa using this) (by simpa using hk) (by simpa using h2)]
theorem one1 (a : Int) : ∀ u ∈ [Value.int .i64 a], u.oneCell' = true := by
  intro u hu
  simp at hu
  subst hu
  rfl
theorem oneI (xs : List Int) : ∀ u ∈ flatI xs, u.oneCell' = true := by
  intro u hu
  unfold flatI at hu
  obtain ⟨n, _, rfl⟩ := List.mem_map.1 hu
  rfl
theorem cell_one (w : World) (x : Value) (t : TypeId) : ∀ (j : Nat) (u : Value), [x][j]? = some u → (w.alloc (.cells #[x] t)).cell? ((⟨w.heap.size, 0, none⟩ : Addr).add j) = some u := by
  intro j u hj
  match j, hj with
  | 0, hj => simp at hj; subst hj; simp [Addr.add]
/-- The row behind the copy and the store. -/
theorem splice_row {xs : List Int} {n : Int} {cur : List Value} {k : Nat} (hk : k ≤ xs.length) (h : cur.take (xs.length + 1) = flatI xs ++ [.int .i64 0]) :
    ((splice cur (k + 1) (flatI (xs.drop k))).set k (.int .i64 n)).take (xs.length + 1) = flatI (xs.take k ++ n :: xs.drop k) := by
  have hlen : xs.length + 1 ≤ cur.length := by
    have := congrArg List.length h
    rw [List.length_take, List.length_append, flatI_len] at this
    simp at this
    omega
  have e1 : cur.take k = flatI (xs.take k) := by
    have : (cur.take (xs.length + 1)).take k = cur.take k := by rw [List.take_take]; congr 1; omega
    rw [← this, h, List.take_append_of_le_length (by rw [flatI_len]; exact hk)]
    simp [flatI]
  have e2 : ∃ z, cur.take (k + 1) = flatI (xs.take k) ++ [z] := by
    refine ⟨cur[k]'(by omega), ?_⟩
    rw [← e1, List.take_append_getElem]
  obtain ⟨z, e2⟩ := e2
  unfold splice
  rw [e2]
  have e3 : ((flatI (xs.take k) ++ [z]) ++ (flatI (xs.drop k) ++ cur.drop (k + 1 + (flatI (xs.drop k)).length))).set k (.int .i64 n) = (flatI (xs.take k) ++ .int .i64 n :: flatI (xs.drop k)) ++ cur.drop (k + 1 + (flatI (xs.drop k)).length) := by
    have hl : (flatI (xs.take k)).length = k := by rw [flatI_len, List.length_take]; omega
    rw [List.append_assoc, List.set_append_right _ _ (by rw [hl]; exact Nat.le_refl _), hl, Nat.sub_self]
    simp
  rw [e3, List.take_append_of_le_length (by simp [flatI_len]; omega), List.take_of_length_le (by simp [flatI_len]; omega)]
  simp [flatI]

theorem int_size : (Try.prog.info? 3).map (·.size) = some 1 := by kernel_rfl
theorem splice_len {xs : List Int} {cur : List Value} {k : Nat} (hk : k ≤ xs.length) (hl : xs.length + 1 ≤ cur.length) : (splice cur (k + 1) (flatI (xs.drop k))).length = cur.length :=
  length_splice _ _ _ (by rw [flatI_len, List.length_drop]; omega)
theorem edge_end {w' : World} {base g cap : Nat} {xs : List Int} {n : Int} {cur : List Value} {k : Nat} (hk : k ≤ xs.length) (hB : Bk w' g (splice cur (k + 1) (flatI (xs.drop k))).toArray 3)
    (hcl : cur.length = cap) (hn : xs.length + 1 ≤ cap) (hm : cap ≤ maxLen) (ht : cur.take (xs.length + 1) = flatI xs ++ [.int .i64 0]) (hg : base ≤ g) :
    (w'.setCell ⟨g, k, none⟩ (.int .i64 n)).ownsRow base 3 1 (.slice (some ⟨g, 0, none⟩) (xs.length + 1) cap) (xs.take k ++ n :: xs.drop k).length (flatI (xs.take k ++ n :: xs.drop k)) := by
  have hl : (xs.take k ++ n :: xs.drop k).length = xs.length + 1 := by simp; omega
  rw [hl]
  refine ⟨by rw [flatI_len, hl]; omega, .inr ⟨g, cap, _, rfl, hg, hB.put k (.int .i64 n), hn, hm, ?_, ?_⟩⟩
  · rw [Array.size_setIfInBounds, List.size_toArray, splice_len hk (by omega)]; omega
  · rw [Array.toList_setIfInBounds, Nat.mul_one]
    exact splice_row hk ht
theorem edge_src {w4 : World} {g : Nat} {xs : List Int} {cur : List Value} {k : Nat} (hB : Bk w4 g cur.toArray 3) (ht : cur.take (xs.length + 1) = flatI xs ++ [.int .i64 0]) :
    ∀ j v, (flatI (xs.drop k))[j]? = some v → w4.cell? ((⟨g, k, none⟩ : Addr).add j) = some v := by
  intro j v hj
  have h1 : (⟨g, k, none⟩ : Addr).add j = ⟨g, k + j, none⟩ := by simp [Addr.add]
  rw [h1, hB.cell]
  have hlt : k + j < xs.length := by
    have := (List.getElem?_eq_some_iff.1 hj).1
    rw [flatI_len, List.length_drop] at this
    omega
  have h2 : (cur.take (xs.length + 1))[k + j]? = cur[k + j]? := by rw [List.getElem?_take_of_lt (by omega)]
  rw [List.getElem?_toArray, ← h2, ht, List.getElem?_append_left (by rw [flatI_len]; exact hlt), flatI_at xs _ hlt, ← hj]
  simp [flatI, hlt]

end Go.Proofs.Ytbghjmkgicdnoaa

/-
  Contracts of the document's answer for layer 2: edges.
-/
namespace Go.Proofs.Ytbghjmkgicdnoaa
open Go.RowKit

theorem Bk.at4h {W : World} {b : Nat} {a0 a1 a2 a3 : Value} {t : TypeId} (h : Bk W b #[a0, a1, a2, a3] t) : W.cell? ⟨b, 0, none⟩ = some a0 ∧ W.cell? ⟨b, 1, none⟩ = some a1 ∧ W.cell? ⟨b, 2, none⟩ = some a2 ∧ W.cell? ⟨b, 3, none⟩ = some a3 :=
  ⟨by rw [h.cell]; rfl, by rw [h.cell]; rfl, by rw [h.cell]; rfl, by rw [h.cell]; rfl⟩
theorem drop_cons {l : List Rc} {k : Nat} (h : k < l.length) : l.drop k = l[k] :: l.drop (k + 1) := List.drop_eq_getElem_cons h
/-- Edges gathered so far. -/
def EgI (w0 : World) (down : Bool) (y : Int) (rs : List Rc) (xs : List Int) (k : Nat) (acc : List Int) (v : Value) (wr : World) : Prop :=
  k ≤ rs.length ∧ edF down y (rs.drop k) acc = edF down y rs xs ∧ acc.length ≤ xs.length + 2 * k ∧ wr.ownsRow w0.heap.size 3 1 v acc.length (flatI acc) ∧ Below w0.heap.size w0 wr

end Go.Proofs.Ytbghjmkgicdnoaa

/-
  Contracts of the document's answer for layer 2: kept, spans, alike.
-/
namespace Go.Proofs.Ytbghjmkgicdnoaa
open Go.RowKit

/-- Spans as numbers. -/
def spI : List Sp → List Int
  | [] => []
  | s :: t => s.1 :: s.2 :: spI t
theorem spI_len : ∀ l : List Sp, (spI l).length = l.length * 2
  | [] => rfl
  | _ :: t => by rw [spI, List.length_cons, List.length_cons, spI_len t, List.length_cons]; omega
theorem spI_app : ∀ l m : List Sp, spI (l ++ m) = spI l ++ spI m
  | [], _ => rfl
  | s :: t, m => by simp [spI, spI_app t m]
theorem spI_inj : ∀ {l m : List Sp}, spI l = spI m → l = m
  | [], [], _ => rfl
  | [], _ :: _, h => by simp [spI] at h
  | _ :: _, [], h => by simp [spI] at h
  | (a, b) :: t, (c, d) :: u, h => by
    simp only [spI, List.cons.injEq] at h
    obtain ⟨rfl, rfl, h3⟩ := h
    rw [spI_inj h3]
theorem spI_at : ∀ (l : List Sp) (k : Nat) (h : k < l.length), (spI l)[k * 2]? = some l[k].1 ∧ (spI l)[k * 2 + 1]? = some l[k].2
  | s :: t, 0, _ => ⟨rfl, rfl⟩
  | s :: t, k + 1, h => by
    obtain ⟨h1, h2⟩ := spI_at t k (by simpa using h)
    have e : (k + 1) * 2 = k * 2 + 1 + 1 := by omega
    rw [e, spI]
    exact ⟨by simpa using h1, by simpa using h2⟩
/-- A slice that holds numbers. -/
def IL (w : World) (v : Value) (xs : List Int) : Prop := ∃ oa cap, v = .slice oa xs.length cap ∧ xs.length ≤ cap ∧ (0 < xs.length → ∃ g cs, oa = some ⟨g, 0, none⟩ ∧ Bk w g cs 3 ∧ ∀ i (h : i < xs.length), cs[i]? = some (.int .i64 xs[i]))
theorem IL.below {w w' : World} {v : Value} {xs : List Int} (h : IL w v xs) (hb : Below w.heap.size w w') : IL w' v xs := by
  obtain ⟨oa, cap, e, hc, hg⟩ := h
  exact ⟨oa, cap, e, hc, fun hp => by obtain ⟨g, cs, e, hk, ha⟩ := hg hp; exact ⟨g, cs, e, hk.below hb, ha⟩⟩
theorem il_nil (w : World) : IL w (.slice none 0 0) [] := ⟨none, 0, rfl, Nat.le_refl _, fun h => absurd h (Nat.lt_irrefl 0)⟩
theorem il_own {w : World} {base : Nat} {v : Value} {xs : List Int} (h : w.ownsRow base 3 1 v xs.length (flatI xs)) : IL w v xs := by
  obtain ⟨hl, ⟨rfl, h0⟩ | ⟨g, cap, cur, rfl, hb, hc, h1, h2, h3, h4⟩⟩ := h
  · obtain rfl : xs = [] := List.length_eq_zero_iff.1 h0
    exact il_nil w
  · refine ⟨_, cap, rfl, h1, fun _ => ⟨g, cur, rfl, hc, fun i hi => ?_⟩⟩
    have e : (cur.toList.take (xs.length * 1))[i]? = cur[i]? := by rw [List.getElem?_take_of_lt (by omega), Array.getElem?_toList]
    rw [← e, h4, flatI_at xs i hi]
theorem IL.cells {w : World} {v : Value} {xs : List Int} (h : IL w v xs) : ∃ oa cap, v = .slice oa xs.length cap ∧ xs.length ≤ cap ∧ (0 < xs.length → ∃ g, oa = some ⟨g, 0, none⟩ ∧ g < w.heap.size ∧ ∀ i (h : i < xs.length), w.cell? ⟨g, i, none⟩ = some (.int .i64 xs[i])) := by
  obtain ⟨oa, cap, e, hc, hg⟩ := h
  exact ⟨oa, cap, e, hc, fun hp => by obtain ⟨g, cs, e, hk, ha⟩ := hg hp; exact ⟨g, e, hk.lt, fun i hi => by rw [hk.cell]; exact ha i hi⟩⟩
theorem Bk.grownO {W W' : World} {b : Nat} {vs : Array Value} {t : TypeId} (h : Bk W b vs t) {base : Nat} {e : TypeId} {size n : Nat} {u : Value} {xs : List Value} (hr : W.ownsRow base e size u n xs) (he : e ≠ t) (hg : W.grownBy W' u.ownBlock) : Bk W' b vs t := by
  refine h.grown hg ?_
  intro hb
  obtain ⟨_, hr⟩ := hr
  rcases hr with ⟨rfl, _⟩ | ⟨g, cap, cur, rfl, _, hc, _⟩
  · cases hb
  · simp [Value.ownBlock] at hb
    subst hb
    exact he (Bk.typ hc h)
theorem IL.grown {w w' : World} {v : Value} {ys : List Int} (h : IL w v ys) {base : Nat} {e : TypeId} {size n : Nat} {u : Value} {xs : List Value} (hr : w.ownsRow base e size u n xs) (he : e ≠ 3) (hg : w.grownBy w' u.ownBlock) : IL w' v ys := by
  obtain ⟨oa, cap, e, hc, hG⟩ := h
  exact ⟨oa, cap, e, hc, fun hp => by obtain ⟨g, cs, e, hk, ha⟩ := hG hp; exact ⟨g, cs, e, hk.grownO hr he hg, ha⟩⟩
theorem IL.other {w : World} {v : Value} {ys : List Int} (h : IL w v ys) {b : Nat} {vs : Array Value} {t : TypeId} (hb : Bk w b vs t) (ht : t ≠ 3) (o : Nat) (x : Value) : IL (w.setCell ⟨b, o, none⟩ x) v ys := by
  obtain ⟨oa, cap, e, hc, hG⟩ := h
  exact ⟨oa, cap, e, hc, fun hp => by
    obtain ⟨g, cs, e, hk, ha⟩ := hG hp
    exact ⟨g, cs, e, hk.other _ _ (by rintro rfl; exact ht (hb.typ hk)), ha⟩⟩

theorem take_eq {xs ys : List Int} (k : Nat) (hx : k < xs.length) (hy : k < ys.length) (h : xs.take k = ys.take k) (e : xs[k] = ys[k]) : xs.take (k + 1) = ys.take (k + 1) := by
  rw [← List.take_append_getElem hx, ← List.take_append_getElem hy, h, e]
theorem take_ne {xs ys : List Int} (k : Nat) (hx : k < xs.length) (hy : k < ys.length) (e : xs[k] ≠ ys[k]) : xs ≠ ys := by
  rintro rfl
  exact e rfl

end Go.Proofs.Ytbghjmkgicdnoaa

/-
  Contracts of the document's answer for layer 2: spans.
-/
namespace Go.Proofs.Ytbghjmkgicdnoaa
open Go.RowKit

theorem spF_step (p : Int → Bool) {xs : List Int} {k : Nat} (h : k + 1 < xs.length) (acc : List Sp) : spF p (xs.drop k) acc = spF p (xs.drop (k + 1)) (if p xs[k] = true then runA acc xs[k] xs[k + 1] else acc) := by
  rw [List.drop_eq_getElem_cons (show k < xs.length by omega), List.drop_eq_getElem_cons h, spF]
theorem spF_done (p : Int → Bool) {xs : List Int} {k : Nat} (h : ¬ k + 1 < xs.length) (acc : List Sp) : spF p (xs.drop k) acc = acc := by
  have : (xs.drop k).length ≤ 1 := by rw [List.length_drop]; omega
  match hx : xs.drop k, this with
  | [], _ => rfl
  | [_], _ => rfl
  | _ :: _ :: _, h => simp at h
theorem inc_at : ∀ {xs : List Int}, Inc xs → ∀ {i j : Nat} (_ : i < j) (_ : j < xs.length), xs[i] < xs[j]
  | a :: t, h, 0, j + 1, _, hj => by
    simp
    exact h.1 _ (List.getElem_mem _)
  | a :: t, h, i + 1, j + 1, hij, hj => by
    simp
    exact inc_at h.2 (by omega) (by simpa using hj)
theorem runA_end {init : List Sp} {s : Sp} {x x' : Int} (h : s.2 = x) (hlt : x < x') : runA (init ++ [s]) x x' = init ++ [(s.1, x')] := by
  rw [runA_snoc, if_pos (by omega), Int.max_eq_right (by omega)]
theorem runA_new {init : List Sp} {s : Sp} {x x' : Int} (h : s.2 < x) : runA (init ++ [s]) x x' = (init ++ [s]) ++ [(x, x')] := by
  rw [runA_snoc, if_neg (by omega), List.append_assoc]; rfl
theorem spI_set (init : List Sp) (s : Sp) (z : Int) : (spI (init ++ [s])).set (init.length * 2 + 1) z = spI (init ++ [(s.1, z)]) := by
  rw [spI_app, spI_app, List.set_append_right _ _ (by rw [spI_len]; omega), spI_len]
  have : init.length * 2 + 1 - init.length * 2 = 1 := by omega
  rw [this]
  rfl
theorem flatI_set (xs : List Int) (k : Nat) (z : Int) : (flatI xs).set k (.int .i64 z) = flatI (xs.set k z) := by
  unfold flatI
  rw [List.map_set]
theorem cell_bk {w : World} {g : Nat} {x y : Value} {t : TypeId} (h : w.heap[g]? = some (.cells #[x, y] t)) : ∀ (j : Nat) (u : Value), [x, y][j]? = some u → w.cell? ((⟨g, 0, none⟩ : Addr).add j) = some u := by
  intro j u hj
  obtain ⟨c, _, _⟩ := heap_cells h
  have e : (⟨g, 0, none⟩ : Addr).add j = ⟨g, j, none⟩ := by
    unfold Addr.add
    split <;> simp_all
  rw [e, c j]
  simpa using hj
/-- Spans gathered so far. -/
def SpI (w2 : World) (p : Int → Bool) (xs : List Int) (k : Nat) (acc : List Sp) (v : Value) (wr : World) : Prop :=
  spF p (xs.drop k) acc = spF p xs [] ∧ acc.length ≤ k ∧ (∀ (h : k < xs.length), ∀ s ∈ acc, s.2 ≤ xs[k]) ∧ wr.ownsRow w2.heap.size 3 1 v (spI acc).length (flatI (spI acc)) ∧ Below w2.heap.size w2 wr

end Go.Proofs.Ytbghjmkgicdnoaa
