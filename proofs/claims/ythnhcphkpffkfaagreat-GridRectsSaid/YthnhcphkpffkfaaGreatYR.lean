/-
  The grid in plain lists: answers of the calls; where there is as much room as is needed, all lie within and apart.
-/
import Derived.Test.YthnhcphkpffkfaaGreatYQ
import Derived.Test.YthnhcphkpffkfaaGreatPlain2
namespace Go.Proofs.YthnhcphkpffkfaaGreat

/-- A size. -/
structure Sz where
  w : Int
  h : Int
/-- What may be: lists of numbers, numbers; the first error. -/
def inG (most x : Int) : Bool := decide (0 ≤ x) && decide (x ≤ most)
theorem inG_iff (most x : Int) : inG most x = true ↔ 0 ≤ x ∧ x ≤ most := by unfold inG; simp
def eaC (l : List Int) (most : Int) : Int := if 1024 < l.length then 4 else if l.all (inG most) = true then 0 else 2
def nuC (x most : Int) : Int := if inG most x = true then 0 else 2
def fsC : List Int → Int
  | [] => 0
  | e :: l => if e = 0 then fsC l else e
theorem fsC_zero : ∀ {l : List Int}, fsC l = 0 → ∀ e ∈ l, e = 0
  | [], _, e, h => by simp at h
  | d :: l, h, e, he => by
    rw [fsC] at h
    split at h
    · next c =>
      rcases List.mem_cons.1 he with rfl | he
      · exact c
      · exact fsC_zero h e he
    · next c => exact absurd h c
theorem eaC_zero {l : List Int} {most : Int} (h : eaC l most = 0) : l.length ≤ 1024 ∧ ∀ x ∈ l, 0 ≤ x ∧ x ≤ most := by
  unfold eaC at h
  split at h
  · omega
  split at h
  · next c => exact ⟨by omega, fun x hx => (inG_iff most x).1 (List.all_eq_true.1 c x hx)⟩
  · omega
theorem nuC_zero {x most : Int} (h : nuC x most = 0) : 0 ≤ x ∧ x ≤ most := by
  unfold nuC at h
  split at h
  · next c => exact (inG_iff most x).1 c
  · omega
def szC (l : List Sz) : Int := if 1024 < l.length then 4 else fsC [eaC (l.map (·.w)) 16384, eaC (l.map (·.h)) 16384]
/-- How many columns there are. -/
def clN (columns : Int) : Nat := (max columns 1).toNat
theorem clN_bd {c : Int} (h : 0 ≤ c ∧ c ≤ 64) : 0 < clN c ∧ clN c ≤ 64 := by unfold clN; omega
theorem clN_pos (c : Int) : 0 < clN c := by unfold clN; omega
theorem clN_int (c : Int) : ((clN c : Nat) : Int) = max c 1 := by unfold clN; omega
def ceE (s : List Int) (c : Int) : Int := fsC [eaC s 64, nuC c 64]
def ceL (s : List Int) (c : Int) : List Cl := if ceE s c = 0 then cel (clN c) s else []
def wiE0 (s m : List Int) (c gap : Int) : Int := fsC [eaC s 64, eaC m 16384, nuC c 64, nuC gap 16384]
def wiE (s m : List Int) (c gap : Int) : Int := if wiE0 s m c gap = 0 then (if m.length = s.length then 0 else 110) else wiE0 s m c gap
def wiL (s m : List Int) (c gap : Int) : List Int := if wiE s m c gap = 0 then wsG (clN c) gap (cel (clN c) s) m else []
def heE0 (s m : List Int) (c : Int) : Int := fsC [eaC s 64, eaC m 16384, nuC c 64]
def heE (s m : List Int) (c : Int) : Int := if heE0 s m c = 0 then (if m.length = s.length then 0 else 110) else heE0 s m c
def heL (s m : List Int) (c : Int) : List Int := if heE s m c = 0 then hgt (cel (clN c) s) m else []
theorem wiE_zero {s m : List Int} {c gap : Int} (h : wiE s m c gap = 0) : s.length ≤ 1024 ∧ (∀ x ∈ s, 0 ≤ x ∧ x ≤ 64) ∧ (∀ x ∈ m, 0 ≤ x ∧ x ≤ 16384) ∧ (0 ≤ c ∧ c ≤ 64) ∧ (0 ≤ gap ∧ gap ≤ 16384) ∧ m.length = s.length ∧ ceE s c = 0 := by
  unfold wiE at h
  split at h
  · next e =>
    split at h
    · next hl =>
      have hz := fsC_zero e
      have h1 := hz (eaC s 64) (by simp)
      have h2 := hz (eaC m 16384) (by simp)
      have h3 := hz (nuC c 64) (by simp)
      have h4 := hz (nuC gap 16384) (by simp)
      refine ⟨(eaC_zero h1).1, (eaC_zero h1).2, (eaC_zero h2).2, nuC_zero h3, nuC_zero h4, hl, ?_⟩
      unfold ceE
      rw [fsC, if_pos h1, fsC, if_pos h3, fsC]
    · omega
  · next e => exact absurd h e
/-- Cells and least numbers that may be. -/
theorem gri_of {s m : List Int} {c gap : Int} (h : wiE s m c gap = 0) : Gri (clN c) gap (cel (clN c) s) m := by
  obtain ⟨_, _, h3, h4, h5, h6, _⟩ := wiE_zero h
  exact ⟨(clN_bd h4).1, h5.1, by rw [cel_len]; omega, fun d hd => ⟨(cel_in (clN_bd h4).1 hd).1, (cel_in (clN_bd h4).1 hd).2.1⟩, h3⟩
/-- What is needed; the rectangles. -/
def gnW (n : Nat) (gap : Int) (C : List Cl) (z : List Sz) : Int := neS (wsG n gap C (z.map (·.w))) (usd C) gap
def gnH (gap : Int) (C : List Cl) (z : List Sz) : Int := neS (hgt C (z.map (·.h))) (hgt C (z.map (·.h))).length gap
def gE0 (s : List Int) (z : List Sz) (c gap : Int) : Int := fsC [eaC s 64, szC z, nuC c 64, nuC gap 16384]
def gE1 (s : List Int) (z : List Sz) (c gap : Int) : Int := if gE0 s z c gap = 0 then (if z.length = s.length then 0 else 110) else gE0 s z c gap
def neE (s : List Int) (z : List Sz) (c gap : Int) : Int := if gE1 s z c gap = 0 then (if 16384 < gnW (clN c) gap (cel (clN c) s) z ∨ 16384 < gnH gap (cel (clN c) s) z then 9 else 0) else gE1 s z c gap
def neZ (s : List Int) (z : List Sz) (c gap : Int) : Sz := if neE s z c gap = 0 then ⟨gnW (clN c) gap (cel (clN c) s) z, gnH gap (cel (clN c) s) z⟩ else ⟨0, 0⟩
def colG (n : Nat) (gap : Int) (C : List Cl) (z : List Sz) (w : Int) : List Int := roL ((wsG n gap C (z.map (·.w))).take (usd C)) gap w
def rowG (gap : Int) (C : List Cl) (z : List Sz) (h : Int) : List Int := roL (hgt C (z.map (·.h))) gap h
/-- A thing's rectangle: xs, ys: the widths and heights. -/
def rcG (gap : Int) (xs ys : List Int) (r : Rc) (c : Cl) : Rc := ⟨r.x + beg gap xs c.x, r.y + beg gap ys c.y, ext gap xs c.x c.k, ys.getD c.y 0⟩
def rcsG (n : Nat) (gap : Int) (C : List Cl) (z : List Sz) (r : Rc) : List Rc := C.map (rcG gap (colG n gap C z r.w) (rowG gap C z r.h) r)
def rE0 (s : List Int) (z : List Sz) (c gap : Int) (r : Rc) : Int := fsC [eaC s 64, szC z, nuC c 64, nuC gap 16384, if mayB r.x r.y r.w r.h = true then 0 else 5]
def rE1 (s : List Int) (z : List Sz) (c gap : Int) (r : Rc) : Int := if rE0 s z c gap r = 0 then (if z.length = s.length then 0 else 110) else rE0 s z c gap r
def rcE (s : List Int) (z : List Sz) (c gap : Int) (r : Rc) : Int := if rE1 s z c gap r = 0 then (if (rcsG (clN c) gap (cel (clN c) s) z r).all (fun q => mayB q.x q.y q.w q.h) = true then 0 else 9) else rE1 s z c gap r
def rcL (s : List Int) (z : List Sz) (c gap : Int) (r : Rc) : List Rc := if rcE s z c gap r = 0 then rcsG (clN c) gap (cel (clN c) s) z r else []
theorem gE1_zero {s : List Int} {z : List Sz} {c gap : Int} (h : gE1 s z c gap = 0) : s.length ≤ 1024 ∧ (∀ x ∈ s, 0 ≤ x ∧ x ≤ 64) ∧ (∀ q ∈ z, (0 ≤ q.w ∧ q.w ≤ 16384) ∧ 0 ≤ q.h ∧ q.h ≤ 16384) ∧ (0 ≤ c ∧ c ≤ 64) ∧ (0 ≤ gap ∧ gap ≤ 16384) ∧ z.length = s.length ∧ wiE s (z.map (·.w)) c gap = 0 ∧ heE s (z.map (·.h)) c = 0 := by
  unfold gE1 at h
  split at h
  · next e =>
    split at h
    · next hl =>
      have hz := fsC_zero e
      have h1 := hz (eaC s 64) (by simp)
      have h2 := hz (szC z) (by simp)
      have h3 := hz (nuC c 64) (by simp)
      have h4 := hz (nuC gap 16384) (by simp)
      unfold szC at h2
      split at h2
      · omega
      have hz2 := fsC_zero h2
      have h5 := hz2 (eaC (z.map (·.w)) 16384) (by simp)
      have h6 := hz2 (eaC (z.map (·.h)) 16384) (by simp)
      refine ⟨(eaC_zero h1).1, (eaC_zero h1).2, fun q hq => ⟨(eaC_zero h5).2 q.w (List.mem_map.2 ⟨q, hq, rfl⟩), (eaC_zero h6).2 q.h (List.mem_map.2 ⟨q, hq, rfl⟩)⟩, nuC_zero h3, nuC_zero h4, hl, ?_, ?_⟩
      · have e0 : wiE0 s (z.map (·.w)) c gap = 0 := by
          unfold wiE0
          rw [fsC, if_pos h1, fsC, if_pos h5, fsC, if_pos h3, fsC, if_pos h4, fsC]
        unfold wiE
        rw [if_pos e0, List.length_map, if_pos hl]
      · have e0 : heE0 s (z.map (·.h)) c = 0 := by
          unfold heE0
          rw [fsC, if_pos h1, fsC, if_pos h6, fsC, if_pos h3, fsC]
        unfold heE
        rw [if_pos e0, List.length_map, if_pos hl]
    · omega
  · next e => exact absurd h e
/-- Where there is as much room as is needed. -/
structure Roo (n : Nat) (gap : Int) (s : List Int) (z : List Sz) (r : Rc) : Prop where
  n0 : 0 < n
  g0 : 0 ≤ gap
  gri : Gri n gap (cel n s) (z.map (·.w))
  len : z.length = s.length
  hs : ∀ q ∈ z, 0 ≤ q.h ∧ q.h ≤ 16384
  w : gnW n gap (cel n s) z ≤ r.w
  h : gnH gap (cel n s) z ≤ r.h
theorem col_ok {n : Nat} {gap : Int} {C : List Cl} {ms : List Int} (h : Gri n gap C ms) : ∀ x ∈ (wsG n gap C ms).take (usd C), 0 ≤ x ∧ x ≤ 16384 := by
  intro x hx
  obtain ⟨i, hi, rfl⟩ := List.mem_iff_getElem.1 (List.mem_of_mem_take hx)
  rw [wsG_at hi]
  exact h.wid (by rwa [wsG_len] at hi)
theorem col_len {n : Nat} {gap : Int} {C : List Cl} {ms : List Int} (h : Gri n gap C ms) : ((wsG n gap C ms).take (usd C)).length = usd C := by
  have := usd_le (n := n) fun c hc => (h.cel c hc).1
  rw [List.length_take, wsG_len]
  omega
theorem col_sum {n : Nat} {gap : Int} {C : List Cl} {ms : List Int} (h : Gri n gap C ms) : smL ((wsG n gap C ms).take (usd C)) = smL (wsG n gap C ms) := by
  have hu := usd_le (n := n) fun c hc => (h.cel c hc).1
  have h1 := smL_edges h (i := n) (Nat.le_refl _)
  rw [List.take_of_length_le (by rw [wsG_len]; exact Nat.le_refl _)] at h1
  rw [smL_edges h hu, h1, used_all h hu (Nat.le_refl _)]
theorem Roo.hgs {n : Nat} {gap : Int} {s : List Int} {z : List Sz} {r : Rc} (h : Roo n gap s z r) : (∀ x ∈ hgt (cel n s) (z.map (·.h)), 0 ≤ x ∧ x ≤ 16384) ∧ (∀ j (hj : j < s.length), (z.map (·.h))[j]'(by rw [List.length_map, h.len]; exact hj) ≤ (hgt (cel n s) (z.map (·.h))).getD ((cel n s)[j]'(by rw [cel_len]; exact hj)).y 0 ∧ ((cel n s)[j]'(by rw [cel_len]; exact hj)).y < (hgt (cel n s) (z.map (·.h))).length) := (hgt_all h.n0 (l := s) (ms := z.map (·.h)) (by rw [List.length_map, h.len]) (fun m hm => by obtain ⟨q, hq, rfl⟩ := List.mem_map.1 hm; exact h.hs q hq)).2
/-- A thing lies within, and is as great as it must be. -/
theorem Roo.one {n : Nat} {gap : Int} {s : List Int} {z : List Sz} {r : Rc} (h : Roo n gap s z r) {i : Nat} (h1 : i < (cel n s).length) (h2 : i < z.length) :
    z[i].w ≤ (rcG gap (colG n gap (cel n s) z r.w) (rowG gap (cel n s) z r.h) r (cel n s)[i]).w ∧ z[i].h ≤ (rcG gap (colG n gap (cel n s) z r.w) (rowG gap (cel n s) z r.h) r (cel n s)[i]).h ∧
    r.x ≤ (rcG gap (colG n gap (cel n s) z r.w) (rowG gap (cel n s) z r.h) r (cel n s)[i]).x ∧ r.y ≤ (rcG gap (colG n gap (cel n s) z r.w) (rowG gap (cel n s) z r.h) r (cel n s)[i]).y ∧
    (rcG gap (colG n gap (cel n s) z r.w) (rowG gap (cel n s) z r.h) r (cel n s)[i]).x + (rcG gap (colG n gap (cel n s) z r.w) (rowG gap (cel n s) z r.h) r (cel n s)[i]).w ≤ r.x + r.w ∧
    (rcG gap (colG n gap (cel n s) z r.w) (rowG gap (cel n s) z r.h) r (cel n s)[i]).y + (rcG gap (colG n gap (cel n s) z r.w) (rowG gap (cel n s) z r.h) r (cel n s)[i]).h ≤ r.y + r.h := by
  have hC : (cel n s)[i] ∈ cel n s := List.getElem_mem h1
  have hs : i < s.length := by rwa [cel_len] at h1
  obtain ⟨c1, c2⟩ := h.gri.cel _ hC
  have c3 := usd_ge hC
  have ok := col_ok h.gri
  have le := col_len h.gri
  have sm := col_sum h.gri
  obtain ⟨g2, g3⟩ := h.hgs
  obtain ⟨y1, y2⟩ := g3 i hs
  rw [List.getElem_map] at y1
  have hrm := h.gri.room h1 (by rw [List.length_map]; exact h2)
  rw [List.getElem_map] at hrm
  have e1 := smL_edges h.gri (i := (cel n s)[i].x) (by omega)
  have e2 := smL_edges h.gri (i := (cel n s)[i].x + (cel n s)[i].k) c1
  have hw := h.w
  have hh := h.h
  unfold gnW at hw
  unfold gnH at hh
  unfold rcG colG rowG
  generalize (cel n s)[i] = c at *
  -- columns
  have tk : ∀ j, j ≤ usd (cel n s) → ((wsG n gap (cel n s) (z.map (·.w))).take (usd (cel n s))).take j = (wsG n gap (cel n s) (z.map (·.w))).take j := fun j hj => by rw [List.take_take, show min j (usd (cel n s)) = j by omega]
  have t1 := tk c.x (by omega)
  have t2 := tk (c.x + c.k) c3
  generalize hcl : (wsG n gap (cel n s) (z.map (·.w))).take (usd (cel n s)) = cols at *
  have xl := roL_len ok gap r.w
  have xg := fun j h1 h2 => roL_ge ok gap r.w (i := j) h1 h2
  have xn := roL_nn ok gap r.w
  have xd := smL_dif (l := cols) (xs := roL cols gap r.w) xl.symm xg (a := c.x) (b := c.x + c.k) (by omega) (by omega)
  have hsw : neS cols cols.length gap ≤ r.w := by unfold neS at hw ⊢; rw [le, sm]; exact hw
  have xs := roL_sum ok (gap := gap) (room := r.w) (by omega) hsw
  obtain ⟨i1, i2, i3⟩ := ext_in h.g0 xn (x := c.x) (k := c.k) c2 (by omega)
  have i4 := ext_eq (gap := gap) (xs := roL cols gap r.w) (x := c.x) (k := c.k) c2 (by omega)
  -- rows
  generalize hrl : hgt (cel n s) (z.map (·.h)) = rows at *
  have yl := roL_len g2 gap r.h
  have yg := roL_ge g2 gap r.h (i := c.y) y2 (by omega)
  have yn := roL_nn g2 gap r.h
  have ys := roL_sum g2 (gap := gap) (room := r.h) (by omega) hh
  obtain ⟨j1, j2, j3⟩ := ext_in h.g0 yn (x := c.y) (k := 1) (Nat.le_refl _) (by omega)
  have j4 : ext gap (roL rows gap r.h) c.y 1 = (roL rows gap r.h).getD c.y 0 := by
    unfold ext
    rw [show c.y + 1 - 1 = c.y by omega]
    omega
  have j5 : (roL rows gap r.h).getD c.y 0 = (roL rows gap r.h)[c.y] := by rw [List.getD_eq_getElem?_getD, List.getElem?_eq_getElem (by omega)]; rfl
  have j6 : rows.getD c.y 0 = rows[c.y] := by rw [List.getD_eq_getElem?_getD, List.getElem?_eq_getElem y2]; rfl
  rw [j6] at y1
  rw [xl] at i3
  rw [yl] at j3
  rw [t1, t2, e1, e2] at xd
  show z[i].w ≤ ext gap (roL cols gap r.w) c.x c.k ∧ z[i].h ≤ (roL rows gap r.h).getD c.y 0 ∧ r.x ≤ r.x + beg gap (roL cols gap r.w) c.x ∧ r.y ≤ r.y + beg gap (roL rows gap r.h) c.y ∧ r.x + beg gap (roL cols gap r.w) c.x + ext gap (roL cols gap r.w) c.x c.k ≤ r.x + r.w ∧ r.y + beg gap (roL rows gap r.h) c.y + (roL rows gap r.h).getD c.y 0 ≤ r.y + r.h
  refine ⟨?_, ?_, by omega, by omega, by omega, by omega⟩
  · rw [i4]
    generalize ((c.k : Int) - 1) * gap = q at *
    omega
  · omega
/-- No two things lie over one another. -/
theorem Roo.two {n : Nat} {gap : Int} {s : List Int} {z : List Sz} {r : Rc} (h : Roo n gap s z r) {k i : Nat} (hk : k < i) (h1 : i < (cel n s).length) :
    (rcG gap (colG n gap (cel n s) z r.w) (rowG gap (cel n s) z r.h) r ((cel n s)[k]'(by omega))).x + (rcG gap (colG n gap (cel n s) z r.w) (rowG gap (cel n s) z r.h) r ((cel n s)[k]'(by omega))).w ≤ (rcG gap (colG n gap (cel n s) z r.w) (rowG gap (cel n s) z r.h) r (cel n s)[i]).x ∨
    (rcG gap (colG n gap (cel n s) z r.w) (rowG gap (cel n s) z r.h) r ((cel n s)[k]'(by omega))).y + (rcG gap (colG n gap (cel n s) z r.w) (rowG gap (cel n s) z r.h) r ((cel n s)[k]'(by omega))).h ≤ (rcG gap (colG n gap (cel n s) z r.w) (rowG gap (cel n s) z r.h) r (cel n s)[i]).y := by
  have hs : i < s.length := by rwa [cel_len] at h1
  have ha := cel_apart h.n0 s hk h1
  have hC : (cel n s)[i] ∈ cel n s := List.getElem_mem h1
  have hD : (cel n s)[k]'(by omega) ∈ cel n s := List.getElem_mem _
  obtain ⟨c1, c2⟩ := h.gri.cel _ hC
  obtain ⟨d1, d2⟩ := h.gri.cel _ hD
  have c3 := usd_ge hC
  have ok := col_ok h.gri
  have le := col_len h.gri
  obtain ⟨g2, g3⟩ := h.hgs
  obtain ⟨_, y2⟩ := g3 i hs
  unfold rcG colG rowG
  generalize (cel n s)[i] = c at *
  generalize (cel n s)[k]'(by omega) = d at *
  generalize (wsG n gap (cel n s) (z.map (·.w))).take (usd (cel n s)) = cols at *
  have xl := roL_len ok gap r.w
  have xn := roL_nn ok gap r.w
  generalize hgt (cel n s) (z.map (·.h)) = rows at *
  have yl := roL_len g2 gap r.h
  have yn := roL_nn g2 gap r.h
  show r.x + beg gap (roL cols gap r.w) d.x + ext gap (roL cols gap r.w) d.x d.k ≤ r.x + beg gap (roL cols gap r.w) c.x ∨ r.y + beg gap (roL rows gap r.h) d.y + (roL rows gap r.h).getD d.y 0 ≤ r.y + beg gap (roL rows gap r.h) c.y
  rcases ha with ha | ⟨_, ha⟩
  · right
    have := ext_aft h.g0 yn (x := d.y) (k := 1) (z := c.y) (Nat.le_refl _) (by omega) (by omega)
    have j4 : ext gap (roL rows gap r.h) d.y 1 = (roL rows gap r.h).getD d.y 0 := by
      unfold ext
      rw [show d.y + 1 - 1 = d.y by omega]
      omega
    omega
  · left
    have := ext_aft h.g0 xn (x := d.x) (k := d.k) (z := c.x) d2 (by omega) (by omega)
    omega

end Go.Proofs.YthnhcphkpffkfaaGreat
