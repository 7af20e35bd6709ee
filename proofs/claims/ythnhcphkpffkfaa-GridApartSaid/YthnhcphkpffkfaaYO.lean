/-
  The grid's outright statements in plain words: a cell and the one ahead; room for all.
-/
import Derived.Test.YthnhcphkpffkfaaYR
namespace Go.Proofs.Ythnhcphkpffkfaa

/-- A cell lies behind the one ahead, or begins the next row as it finds no room. -/
theorem cel_step {n : Nat} (l : List Int) {i : Nat} (h : i + 1 < l.length) :
    (((cel n l)[i + 1]'(by rw [cel_len]; exact h)).y = ((cel n l)[i]'(by rw [cel_len]; omega)).y ∧ ((cel n l)[i + 1]'(by rw [cel_len]; exact h)).x = ((cel n l)[i]'(by rw [cel_len]; omega)).x + wdN n l[i]) ∨
    (((cel n l)[i + 1]'(by rw [cel_len]; exact h)).y = ((cel n l)[i]'(by rw [cel_len]; omega)).y + 1 ∧ ((cel n l)[i + 1]'(by rw [cel_len]; exact h)).x = 0 ∧ n < ((cel n l)[i]'(by rw [cel_len]; omega)).x + wdN n l[i] + wdN n l[i + 1]) := by
  have e := cel_next (n := n) l h
  have k := cel_k (n := n) l (i := i) (by omega)
  rw [e]
  rw [← k]
  unfold nxC
  split
  · next c => exact .inr ⟨rfl, rfl, c⟩
  · exact .inl ⟨rfl, rfl⟩
/-- In the widths each thing finds room. -/
theorem room_sum {n : Nat} {gap : Int} {C : List Cl} {ms : List Int} (h : Gri n gap C ms) {i : Nat} (h1 : i < C.length) (h2 : i < ms.length) : ms[i] ≤ smL ((wsG n gap C ms).take (C[i].x + C[i].k)) - smL ((wsG n gap C ms).take C[i].x) + ((C[i].k : Int) - 1) * gap := by
  have hc := h.cel C[i] (List.getElem_mem h1)
  have hr := h.room h1 h2
  rw [smL_edges h hc.1, smL_edges h (by omega)]
  generalize ((C[i].k : Int) - 1) * gap = q at *
  omega
/-- Room enough, from what the calls answer: as GridApart asks it. -/
theorem roo_of {s : List Int} {z : List Sz} {c gap : Int} {r : Rc} (h : neE s z c gap = 0) (hw : (neZ s z c gap).w ≤ r.w) (hh : (neZ s z c gap).h ≤ r.h) : Roo (clN c) gap s z r := by
  have h1 : gE1 s z c gap = 0 := by
    unfold neE at h
    split at h
    · next e => exact e
    · next e => exact absurd h e
  obtain ⟨_, _, hz, hc, hg, hl, hwi, _⟩ := gE1_zero h1
  have e : neZ s z c gap = ⟨gnW (clN c) gap (cel (clN c) s) z, gnH gap (cel (clN c) s) z⟩ := by unfold neZ; rw [if_pos h]
  rw [e] at hw hh
  exact ⟨clN_pos c, hg.1, gri_of hwi, hl, fun q hq => (hz q hq).2, hw, hh⟩
/-- Where there is room enough, all rectangles may be. -/
theorem rc_may {s : List Int} {z : List Sz} {c gap : Int} {r : Rc} (h : neE s z c gap = 0) (hw : (neZ s z c gap).w ≤ r.w) (hh : (neZ s z c gap).h ≤ r.h) (hr : mayB r.x r.y r.w r.h = true) (hm : ∀ q : Rc, 0 ≤ q.w → 0 ≤ q.h → r.x ≤ q.x → r.y ≤ q.y → q.x + q.w ≤ r.x + r.w → q.y + q.h ≤ r.y + r.h → mayB q.x q.y q.w q.h = true) : rcE s z c gap r = 0 ∧ rcL s z c gap r = rcsG (clN c) gap (cel (clN c) s) z r := by
  have hR := roo_of h hw hh
  have h1 : gE1 s z c gap = 0 := by
    unfold neE at h
    split at h
    · next e => exact e
    · next e => exact absurd h e
  have hz := (gE1_zero h1).2.2.1
  have h0 : gE0 s z c gap = 0 := by
    unfold gE1 at h1
    split at h1
    · next e => exact e
    · next e => exact absurd h1 e
  have hl := (gE1_zero h1).2.2.2.2.2.1
  have r0 : rE0 s z c gap r = 0 := by
    have hz := fsC_zero h0
    unfold rE0
    rw [fsC, if_pos (hz _ (by simp)), fsC, if_pos (hz _ (by simp)), fsC, if_pos (hz _ (by simp)), fsC, if_pos (hz _ (by simp)), fsC, if_pos (if_pos hr), fsC]
  have r1 : rE1 s z c gap r = 0 := by unfold rE1; rw [if_pos r0, if_pos hl]
  have ra : (rcsG (clN c) gap (cel (clN c) s) z r).all (fun q => mayB q.x q.y q.w q.h) = true := by
    refine List.all_eq_true.2 fun q hq => ?_
    unfold rcsG at hq
    obtain ⟨d, hd, rfl⟩ := List.mem_map.1 hq
    obtain ⟨i, hi, rfl⟩ := List.mem_iff_getElem.1 hd
    have hi2 : i < z.length := by rw [hl]; rwa [cel_len] at hi
    obtain ⟨a1, a2, a3, a4, a5, a6⟩ := hR.one hi hi2
    have hq := hz z[i] (List.getElem_mem hi2)
    exact hm _ (by omega) (by omega) a3 a4 a5 a6
  have e : rcE s z c gap r = 0 := by unfold rcE; rw [if_pos r1, if_pos ra]
  exact ⟨e, by unfold rcL; rw [if_pos e]⟩

end Go.Proofs.Ythnhcphkpffkfaa
