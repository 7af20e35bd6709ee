/-
  The document's way of a form, in plain lists: edges, the spans between them, row by row.
-/
import Derived.Test.YtagkbpceiedikaaGC
namespace Go.Proofs.Ytagkbpceiedikaa

def emD (r : Rc) : Bool := r.w == 0 || r.h == 0
theorem keep_emD {r : Rc} (h : mayB r.x r.y r.w r.h = true) : keepE r = !emD r := by
  simp [keepE, emptyB, emD, h]
theorem emD_pos {r : Rc} (h : mayB r.x r.y r.w r.h = true) : emD r = false ↔ 0 < r.w ∧ 0 < r.h := by
  have b := may_bd h
  unfold emD
  simp
  omega
/-- One rectangle's edges, along Y or along X of a row. -/
def edS (down : Bool) (y : Int) (r : Rc) (acc : List Int) : List Int := if emD r = true then acc else if down = true then insU (r.y + r.h) (insU r.y acc) else if r.y ≤ y ∧ y < r.y + r.h then insU (r.x + r.w) (insU r.x acc) else acc
def edF (down : Bool) (y : Int) : List Rc → List Int → List Int
  | [], acc => acc
  | r :: t, acc => edF down y t (edS down y r acc)
theorem insU_lenD (n : Int) : ∀ l : List Int, (insU n l).length ≤ l.length + 1
  | [] => by simp [insU]
  | m :: t => by
    rw [insU]
    split
    · simp
    · split
      · simp
      · have := insU_lenD n t
        simp
        omega
theorem edS_len (down : Bool) (y : Int) (r : Rc) (acc : List Int) : (edS down y r acc).length ≤ acc.length + 2 := by
  have h1 := insU_lenD r.y acc
  have h2 := insU_lenD (r.y + r.h) (insU r.y acc)
  have h3 := insU_lenD r.x acc
  have h4 := insU_lenD (r.x + r.w) (insU r.x acc)
  unfold edS
  split
  · omega
  · split
    · omega
    · split <;> omega
theorem ed_len (down : Bool) (y : Int) : ∀ (l : List Rc) (acc : List Int), (edF down y l acc).length ≤ acc.length + 2 * l.length
  | [], acc => by simp [edF]
  | r :: t, acc => by
    have h1 := edS_len down y r acc
    have h2 := ed_len down y t (edS down y r acc)
    rw [edF, List.length_cons]
    omega
theorem edS_inc (down : Bool) (y : Int) (r : Rc) {acc : List Int} (h : Inc acc) : Inc (edS down y r acc) := by
  unfold edS
  split
  · exact h
  · split
    · exact insU_inc _ (insU_inc _ h)
    · split
      · exact insU_inc _ (insU_inc _ h)
      · exact h
theorem ed_inc (down : Bool) (y : Int) : ∀ (l : List Rc) {acc : List Int}, Inc acc → Inc (edF down y l acc)
  | [], _, h => h
  | r :: t, _, h => ed_inc down y t (edS_inc down y r h)
def isEd (down : Bool) (y : Int) (r : Rc) (n : Int) : Prop := emD r = false ∧ (if down = true then n = r.y ∨ n = r.y + r.h else (r.y ≤ y ∧ y < r.y + r.h) ∧ (n = r.x ∨ n = r.x + r.w))
theorem edS_mem (down : Bool) (y : Int) (r : Rc) (acc : List Int) (n : Int) : n ∈ edS down y r acc ↔ n ∈ acc ∨ isEd down y r n := by
  unfold edS isEd
  by_cases h : emD r = true
  · rw [if_pos h]; simp [h]
  · rw [if_neg h]
    have h' : emD r = false := by simpa using h
    by_cases d : down = true
    · rw [if_pos d, if_pos d, insU_mem, insU_mem]
      constructor
      · rintro (e | e | e)
        · exact .inr ⟨h', .inr e⟩
        · exact .inr ⟨h', .inl e⟩
        · exact .inl e
      · rintro (e | ⟨_, e | e⟩)
        · exact .inr (.inr e)
        · exact .inr (.inl e)
        · exact .inl e
    · rw [if_neg d, if_neg d]
      by_cases c : r.y ≤ y ∧ y < r.y + r.h
      · rw [if_pos c, insU_mem, insU_mem]
        constructor
        · rintro (e | e | e)
          · exact .inr ⟨h', c, .inr e⟩
          · exact .inr ⟨h', c, .inl e⟩
          · exact .inl e
        · rintro (e | ⟨_, _, e | e⟩)
          · exact .inr (.inr e)
          · exact .inr (.inl e)
          · exact .inl e
      · rw [if_neg c]
        constructor
        · exact fun e => .inl e
        · rintro (e | ⟨_, e, _⟩)
          · exact e
          · exact absurd e c
theorem ed_mem (down : Bool) (y n : Int) : ∀ (l : List Rc) (acc : List Int), n ∈ edF down y l acc ↔ n ∈ acc ∨ ∃ r ∈ l, isEd down y r n
  | [], acc => by simp [edF]
  | r :: t, acc => by
    rw [edF, ed_mem down y n t, edS_mem]
    simp only [List.mem_cons, exists_eq_or_imp]
    exact or_assoc
/-- The edges of two lists. -/
def edTwo (down : Bool) (y : Int) (a b : List Rc) : List Int := edF down y b (edF down y a [])
theorem edTwo_inc (down : Bool) (y : Int) (a b : List Rc) : Inc (edTwo down y a b) := ed_inc _ _ _ (ed_inc _ _ _ trivial)
theorem edTwo_mem (down : Bool) (y : Int) (a b : List Rc) (n : Int) : n ∈ edTwo down y a b ↔ (∃ r ∈ a, isEd down y r n) ∨ ∃ r ∈ b, isEd down y r n := by
  unfold edTwo
  rw [ed_mem, ed_mem]
  simp
theorem edTwo_len (down : Bool) (y : Int) (a b : List Rc) : (edTwo down y a b).length ≤ 2 * (a.length + b.length) := by
  have h1 := ed_len down y a []
  have h2 := ed_len down y b (edF down y a [])
  unfold edTwo
  simp at h1
  omega
def hsB (r : Rc) (x y : Int) : Bool := decide (r.x ≤ x) && (decide (x < r.x + r.w) && (decide (r.y ≤ y) && decide (y < r.y + r.h)))
theorem hsB_iff (r : Rc) (x y : Int) : hsB r x y = true ↔ r.x ≤ x ∧ x < r.x + r.w ∧ r.y ≤ y ∧ y < r.y + r.h := by simp [hsB]
def hsD (l : List Rc) (x y : Int) : Bool := l.any fun r => hsB r x y
def Mays (l : List Rc) : Prop := ∀ r ∈ l, mayB r.x r.y r.w r.h = true
theorem hsD_iff {l : List Rc} (h : Mays l) (x y : Int) : hsD l x y = true ↔ cov l x y := by
  unfold hsD cov
  rw [List.any_eq_true]
  constructor
  · rintro ⟨r, hr, hx⟩
    have hx' := (hsB_iff r x y).1 hx
    refine ⟨r, hr, ?_, hx'.1, hx'.2.1, hx'.2.2.1, hx'.2.2.2⟩
    rw [keep_emD (h r hr), (emD_pos (h r hr)).2 (by omega)]
    rfl
  · rintro ⟨r, hr, _, h1, h2, h3, h4⟩
    exact ⟨r, hr, (hsB_iff r x y).2 ⟨h1, h2, h3, h4⟩⟩
def kpD (what : Int) (one other : Bool) : Bool := if what = 1 then one || other else if what = 2 then one && other else one && !other
def wK (what : Int) : Bool := decide (what = 2)
def wA (what : Int) (a b : List Rc) : List Rc := if what = 1 then a ++ b else a
def wB (what : Int) (b : List Rc) : List Rc := if what = 1 then [] else b
theorem kp_iff {a b : List Rc} (ha : Mays a) (hb : Mays b) (what x y : Int) : kpD what (hsD a x y) (hsD b x y) = true ↔ keepP (wK what) (cov (wA what a b) x y) (cov (wB what b) x y) := by
  unfold kpD wK wA wB keepP
  by_cases h1 : what = 1
  · subst h1
    simp only [if_true, Bool.or_eq_true, hsD_iff ha, hsD_iff hb, cov_app]
    simp [cov_nil]
  · rw [if_neg h1, if_neg h1, if_neg h1]
    by_cases h2 : what = 2
    · subst h2
      simp [hsD_iff ha, hsD_iff hb]
    · rw [if_neg h2]
      have hb' : hsD b x y = false ↔ ¬ cov b x y := by rw [← hsD_iff hb]; simp
      simp [hsD_iff ha, hb', h2]
/-- The spans of a row: between edges, side by side ones joined. -/
def spF (p : Int → Bool) : List Int → List Sp → List Sp
  | x :: x' :: t, acc => spF p (x' :: t) (if p x = true then runA acc x x' else acc)
  | _, acc => acc
def inP (p : Int → Bool) : List Int → Int → Prop
  | x :: x' :: t, z => (x ≤ z ∧ z < x' ∧ p x = true) ∨ inP p (x' :: t) z
  | _, _ => False
theorem sp_can (p : Int → Bool) (a0 : Int) : ∀ (xs : List Int) (acc : List Sp), Inc xs → Can a0 acc → (∀ x ∈ xs, a0 ≤ x ∧ lastB acc x) → Can a0 (spF p xs acc) ∧ ∀ z, inS (spF p xs acc) z ↔ inS acc z ∨ inP p xs z
  | [], acc, _, hc, _ => ⟨by simpa [spF] using hc, fun z => by simp [spF, inP]⟩
  | [x], acc, _, hc, _ => ⟨by simpa [spF] using hc, fun z => by simp [spF, inP]⟩
  | x :: x' :: t, acc, hi, hc, hx => by
    rw [spF]
    have hlt : x < x' := hi.1 x' (by simp)
    by_cases c : p x = true
    · rw [if_pos c]
      obtain ⟨r1, r2, r3⟩ := runA_can hc (hx x (by simp)).1 hlt (hx x (by simp)).2
      obtain ⟨q1, q2⟩ := sp_can p a0 (x' :: t) (runA acc x x') hi.2 r1 (fun q hq => ⟨(hx q (by simp only [List.mem_cons] at hq ⊢; exact .inr hq)).1, lastB_mono r2 (by have := hi.1 q hq; omega)⟩)
      refine ⟨q1, fun z => ?_⟩
      rw [q2, r3, inP]
      constructor
      · rintro ((h | h) | h)
        · exact .inl h
        · exact .inr (.inl ⟨h.1, h.2, c⟩)
        · exact .inr (.inr h)
      · rintro (h | h | h)
        · exact .inl (.inl h)
        · exact .inl (.inr ⟨h.1, h.2.1⟩)
        · exact .inr h
    · rw [if_neg c]
      obtain ⟨q1, q2⟩ := sp_can p a0 (x' :: t) acc hi.2 hc (fun q hq => hx q (by simp only [List.mem_cons] at hq ⊢; exact .inr hq))
      refine ⟨q1, fun z => ?_⟩
      rw [q2, inP]
      constructor
      · rintro (h | h)
        · exact .inl h
        · exact .inr (.inr h)
      · rintro (h | h | h)
        · exact .inl h
        · exact absurd h.2.2 c
        · exact .inr h
theorem inP_low (p : Int → Bool) : ∀ (t : List Int) (x z : Int), Inc (x :: t) → inP p (x :: t) z → x ≤ z ∧ ∃ b ∈ t, z < b
  | [], x, z, _, h => by simp [inP] at h
  | x' :: t, x, z, hi, h => by
    rw [inP] at h
    have hlt : x < x' := hi.1 x' (by simp)
    rcases h with h | h
    · exact ⟨h.1, x', by simp, h.2.1⟩
    · obtain ⟨h1, b, hb, h2⟩ := inP_low p t x' z hi.2 h
      exact ⟨by omega, b, by simp [hb], h2⟩
theorem inP_mid (p : Int → Bool) : ∀ (t : List Int) (x z : Int), Inc (x :: t) → x ≤ z → (∃ b ∈ t, z < b) → ∃ e ∈ x :: t, e ≤ z ∧ (∀ n ∈ x :: t, n ≤ z → n ≤ e) ∧ (inP p (x :: t) z ↔ p e = true)
  | [], x, z, _, _, h => by simp at h
  | x' :: t, x, z, hi, hx, hb => by
    have hlt : x < x' := hi.1 x' (by simp)
    by_cases c : z < x'
    · refine ⟨x, by simp, hx, ?_, ?_⟩
      · intro n hn hz
        rcases List.mem_cons.1 hn with rfl | hn
        · omega
        · rcases List.mem_cons.1 hn with rfl | hn
          · omega
          · have := hi.2.1 n hn; omega
      · rw [inP]
        constructor
        · rintro (h | h)
          · exact h.2.2
          · have := (inP_low p t x' z hi.2 h).1; omega
        · exact fun h => .inl ⟨hx, c, h⟩
    · have hb' : ∃ b ∈ t, z < b := by
        obtain ⟨b, hb, h⟩ := hb
        rcases List.mem_cons.1 hb with rfl | hb
        · omega
        · exact ⟨b, hb, h⟩
      obtain ⟨e, he, h1, h2, h3⟩ := inP_mid p t x' z hi.2 (by omega) hb'
      refine ⟨e, by simp only [List.mem_cons] at he ⊢; exact .inr he, h1, ?_, ?_⟩
      · intro n hn hz
        rcases List.mem_cons.1 hn with rfl | hn
        · have := h2 x' (by simp) (by omega); omega
        · exact h2 n hn hz
      · rw [inP, ← h3]
        constructor
        · rintro (h | h)
          · omega
          · exact h
        · exact fun h => .inr h
theorem hsD_step {l : List Rc} (hm : Mays l) {y e z : Int} (hz : e ≤ z) (h : ∀ r ∈ l, ∀ n, isEd false y r n → n ≤ z → n ≤ e) : hsD l z y = hsD l e y := by
  have key : ∀ r ∈ l, hsB r z y = hsB r e y := by
    intro r hr
    rw [Bool.eq_iff_iff, hsB_iff, hsB_iff]
    have q := h r hr
    unfold isEd at q
    have ep := emD_pos (hm r hr)
    constructor
    · rintro ⟨h1, h2, h3, h4⟩
      have := q r.x ⟨ep.2 (by omega), by simp; omega⟩ h1
      exact ⟨this, by omega, h3, h4⟩
    · rintro ⟨h1, h2, h3, h4⟩
      refine ⟨by omega, ?_, h3, h4⟩
      rcases Int.lt_or_le z (r.x + r.w) with c | c
      · exact c
      · have := q (r.x + r.w) ⟨ep.2 (by omega), by simp; omega⟩ c
        omega
  unfold hsD
  rw [Bool.eq_iff_iff, List.any_eq_true, List.any_eq_true]
  constructor
  · rintro ⟨r, hr, hx⟩; exact ⟨r, hr, by rw [← key r hr]; exact hx⟩
  · rintro ⟨r, hr, hx⟩; exact ⟨r, hr, by rw [key r hr]; exact hx⟩
theorem hsD_edge {l : List Rc} (hm : Mays l) {y z : Int} (h : hsD l z y = true) : ∃ r ∈ l, isEd false y r r.x ∧ isEd false y r (r.x + r.w) ∧ r.x ≤ z ∧ z < r.x + r.w := by
  unfold hsD at h
  obtain ⟨r, hr, hx⟩ := List.any_eq_true.1 h
  obtain ⟨h1, h2, h3, h4⟩ := (hsB_iff r z y).1 hx
  have ep := (emD_pos (hm r hr)).2 (by omega)
  refine ⟨r, hr, ?_, ?_, h1, h2⟩
  · unfold isEd; exact ⟨ep, by simp; omega⟩
  · unfold isEd; exact ⟨ep, by simp; omega⟩
theorem kpD_or {what : Int} {o t : Bool} (h : kpD what o t = true) : o = true ∨ t = true := by
  unfold kpD at h
  split at h
  · simpa using h
  · split at h
    · simp at h; exact .inl h.1
    · simp at h; exact .inl h.1
theorem row_doc {a b : List Rc} (ha : Mays a) (hb : Mays b) (what y : Int) : spF (fun x => kpD what (hsD a x y) (hsD b x y)) (edTwo false y a b) [] = rowW (wK what) (wA what a b) (wB what b) y := by
  have hi := edTwo_inc false y a b
  have hmem := edTwo_mem false y a b
  have hlo : ∀ x ∈ edTwo false y a b, (-16384 : Int) ≤ x ∧ lastB [] x := by
    intro x hx
    refine ⟨?_, trivial⟩
    rcases (hmem x).1 hx with ⟨r, hr, h⟩ | ⟨r, hr, h⟩
    · have b := may_bd (ha r hr); unfold isEd at h; simp at h; omega
    · have b := may_bd (hb r hr); unfold isEd at h; simp at h; omega
  obtain ⟨c1, c2⟩ := sp_can (fun x => kpD what (hsD a x y) (hsD b x y)) (-16384) _ [] hi trivial hlo
  refine can_unique c1 (rowW_can _ _ _ y).1 fun z => ?_
  rw [c2, (rowW_can _ _ _ y).2, ← kp_iff ha hb]
  have he : ∀ {z : Int}, kpD what (hsD a z y) (hsD b z y) = true → ∃ u v, u ∈ edTwo false y a b ∧ v ∈ edTwo false y a b ∧ u ≤ z ∧ z < v := by
    intro z h
    rcases kpD_or h with h | h
    · obtain ⟨r, hr, h1, h2, h3, h4⟩ := hsD_edge ha h
      exact ⟨_, _, (hmem _).2 (.inl ⟨r, hr, h1⟩), (hmem _).2 (.inl ⟨r, hr, h2⟩), h3, h4⟩
    · obtain ⟨r, hr, h1, h2, h3, h4⟩ := hsD_edge hb h
      exact ⟨_, _, (hmem _).2 (.inr ⟨r, hr, h1⟩), (hmem _).2 (.inr ⟨r, hr, h2⟩), h3, h4⟩
  have hst : ∀ {e z : Int}, e ≤ z → (∀ n ∈ edTwo false y a b, n ≤ z → n ≤ e) → kpD what (hsD a z y) (hsD b z y) = kpD what (hsD a e y) (hsD b e y) := by
    intro e z h1 h2
    rw [hsD_step ha h1 fun r hr n hn => h2 n ((hmem n).2 (.inl ⟨r, hr, hn⟩)), hsD_step hb h1 fun r hr n hn => h2 n ((hmem n).2 (.inr ⟨r, hr, hn⟩))]
  clear hlo c1 c2
  generalize edTwo false y a b = xs at *
  cases xs with
  | nil =>
    constructor
    · rintro (h | h)
      · exact absurd h (inS_nil z)
      · simp [inP] at h
    · intro h
      obtain ⟨u, _, hu, _⟩ := he h
      simp at hu
  | cons x t =>
    by_cases c : x ≤ z ∧ ∃ b ∈ t, z < b
    · obtain ⟨e, _, h1, h2, h3⟩ := inP_mid (fun x => kpD what (hsD a x y) (hsD b x y)) t x z hi c.1 c.2
      rw [h3, hst h1 h2]
      exact ⟨fun h => h.resolve_left (inS_nil z), .inr⟩
    · constructor
      · rintro (h | h)
        · exact absurd h (inS_nil z)
        · exact absurd (inP_low _ t x z hi h) c
      · intro h
        obtain ⟨u, v, hu, hv, h1, h2⟩ := he h
        refine absurd ?_ c
        have hx : x ≤ z := by
          rcases List.mem_cons.1 hu with rfl | hu
          · exact h1
          · have := hi.1 u hu; omega
        refine ⟨hx, ?_⟩
        rcases List.mem_cons.1 hv with rfl | hv
        · omega
        · exact ⟨v, hv, h2⟩
theorem edges_doc {a b : List Rc} (ha : Mays a) (hb : Mays b) (what : Int) (y : Int) : edTwo true y a b = edgesF (wA what a b ++ wB what b) := by
  refine inc_unique (edTwo_inc _ _ _ _) (edges_inc _).1 fun n => ?_
  rw [(edges_inc _).2, edTwo_mem]
  have key : ∀ {l : List Rc}, Mays l → ((∃ r ∈ l, isEd true y r n) ↔ isEdge l n) := by
    intro l hl
    unfold isEdge isEd
    simp only [if_true]
    constructor
    · rintro ⟨r, hr, h1, h2⟩
      exact ⟨r, hr, by rw [keep_emD (hl r hr), h1]; rfl, h2⟩
    · rintro ⟨r, hr, h1, h2⟩
      exact ⟨r, hr, by rw [keep_emD (hl r hr)] at h1; simpa using h1, h2⟩
  rw [key ha, key hb]
  unfold wA wB
  by_cases h : what = 1
  · rw [if_pos h, if_pos h, List.append_nil, isEdge_app]
  · rw [if_neg h, if_neg h, isEdge_app]
/-- The spans of the band that ends here. -/
def lastS : List Bd → Int → List Sp
  | [], _ => []
  | d :: _, t => if d.2.1 = t then d.2.2 else []
theorem flatB_cons (d : Bd) (ds : List Bd) : flatB (d :: ds) = flatB ds ++ rcts d := by
  simp [flatB]
theorem rcts_len (d : Bd) : (rcts d).length = d.2.2.length := by simp [rcts]
theorem bandS_lenD (sp : List Sp) (t b : Int) (acc : List Bd) : (flatB acc).length ≤ (flatB (bandS sp t b acc)).length := by
  cases acc with
  | nil => simp [flatB]
  | cons d ds =>
    rw [bandS]
    split
    · exact Nat.le_refl _
    · split
      · rw [flatB_cons, flatB_cons, List.length_append, List.length_append, rcts_len, rcts_len]; exact Nat.le_refl _
      · rw [flatB_cons (t, b, sp)]; simp
theorem bandsF_lenD (row : Int → List Sp) : ∀ (ys : List Int) (acc : List Bd), (flatB acc).length ≤ (flatB (bandsF row ys acc)).length
  | [], acc => by simp [bandsF]
  | [_], acc => by simp [bandsF]
  | t :: b :: rest, acc => by
    rw [bandsF]
    exact Nat.le_trans (bandS_lenD _ _ _ _) (bandsF_lenD row (b :: rest) _)
/-- What a step of the document's way makes of the bands. -/
theorem bandS_alike {sp : List Sp} {t b : Int} {acc : List Bd} (h : sp = lastS acc t) (hn : sp ≠ []) : ∃ d ds, acc = d :: ds ∧ d.2.1 = t ∧ d.2.2 = sp ∧ bandS sp t b acc = (d.1, b, sp) :: ds := by
  cases acc with
  | nil => exact absurd h hn
  | cons d ds =>
    rw [lastS] at h
    split at h
    · next c =>
      refine ⟨d, ds, rfl, c, h.symm, ?_⟩
      rw [bandS, if_neg hn, if_pos ⟨c, h.symm⟩, ← h]
    · exact absurd h hn
theorem bandS_other {sp : List Sp} {t b : Int} {acc : List Bd} (h : sp ≠ lastS acc t) (hn : sp ≠ []) : bandS sp t b acc = (t, b, sp) :: acc := by
  cases acc with
  | nil => rw [bandS, if_neg hn]
  | cons d ds =>
    rw [lastS] at h
    rw [bandS, if_neg hn, if_neg]
    rintro ⟨h1, h2⟩
    rw [if_pos h1] at h
    exact h h2.symm
theorem bandS_none (t b : Int) (acc : List Bd) : bandS [] t b acc = acc := by
  cases acc with
  | nil => simp [bandS]
  | cons d ds => simp [bandS]
theorem lastS_high {z t : Int} {acc : List Bd} (h : BanR z acc) (hz : z < t) : lastS acc t = [] := by
  cases acc with
  | nil => rfl
  | cons d ds =>
    have := h.1
    rw [lastS, if_neg (by omega)]

end Go.Proofs.Ytagkbpceiedikaa
