/-
  Lists of rectangles and of spans in memory; contracts of package region: a list's errors, the runs of a row.
-/
import Derived.Test.YtagkbpceiedikaaGC
import Derived.Test.YtagkbpceiedikaaW2
import Derived.Test.YtagkbpceiedikaaPlain3
import Derived.Deep.AppendLies
import Derived.BigQuiet
namespace Go.Proofs.Ytagkbpceiedikaa
open Go.RowKit
attribute [local go_sem] ite_max ite_min

/-- A rectangle in memory, from a place of a block on. -/
def RcAt (w : World) (g o : Nat) (r : Rc) : Prop := w.cell? ⟨g, o, none⟩ = some (.int .i64 r.x) ∧ w.cell? ⟨g, o + 1, none⟩ = some (.int .i64 r.y) ∧ w.cell? ⟨g, o + 2, none⟩ = some (.int .i64 r.w) ∧ w.cell? ⟨g, o + 3, none⟩ = some (.int .i64 r.h)
theorem RcAt.kept {w w' : World} {g o : Nat} {r : Rc} (h : RcAt w g o r) (k : ∀ j, w'.cell? ⟨g, j, none⟩ = w.cell? ⟨g, j, none⟩) : RcAt w' g o r := by
  unfold RcAt; rw [k, k, k, k]; exact h
/-- A slice that holds rectangles. -/
def LsR (w : World) (v : Value) (rs : List Rc) : Prop := ∃ oa cap, v = .slice oa rs.length cap ∧ rs.length ≤ cap ∧ (0 < rs.length → ∃ g o, oa = some ⟨g, o, none⟩ ∧ g < w.heap.size ∧ ∀ i (h : i < rs.length), RcAt w g (o + i * 4) rs[i])
theorem LsR.below {w w' : World} {v : Value} {rs : List Rc} (h : LsR w v rs) (hb : Below w.heap.size w w') : LsR w' v rs := by
  obtain ⟨oa, cap, e, hc, hg⟩ := h
  refine ⟨oa, cap, e, hc, fun hp => ?_⟩
  obtain ⟨g, o, e1, g1, g2⟩ := hg hp
  exact ⟨g, o, e1, Nat.lt_of_lt_of_le g1 hb.size, fun i hi => (g2 i hi).kept fun j => hb.cell (p := ⟨g, j, none⟩) g1⟩
theorem flat_at (l : List Rc) (k : Nat) (h : k < l.length) : (flat l)[k * 4]? = some (.int .i64 l[k].x) ∧ (flat l)[k * 4 + 1]? = some (.int .i64 l[k].y) ∧ (flat l)[k * 4 + 2]? = some (.int .i64 l[k].w) ∧ (flat l)[k * 4 + 3]? = some (.int .i64 l[k].h) := by
  induction l generalizing k with
  | nil => simp at h
  | cons r l ih =>
    cases k with
    | zero => simp [flat, cel]
    | succ k =>
      have e : ∀ j, (flat (r :: l))[(k + 1) * 4 + j]? = (flat l)[k * 4 + j]? := fun j => by
        show (cel r ++ flat l)[(k + 1) * 4 + j]? = _
        rw [List.getElem?_append_right (by simp [cel]; omega)]
        congr 1
        simp [cel]
        omega
      have h' : k < l.length := by simpa using h
      obtain ⟨i0, i1, i2, i3⟩ := ih k h'
      have e0 := e 0
      rw [Nat.add_zero, Nat.add_zero] at e0
      exact ⟨e0.trans i0, (e 1).trans i1, (e 2).trans i2, (e 3).trans i3⟩
theorem flat_app (l m : List Rc) : flat (l ++ m) = flat l ++ flat m := by
  induction l with
  | nil => rfl
  | cons r l ih => show cel r ++ flat (l ++ m) = (cel r ++ flat l) ++ flat m; rw [ih, List.append_assoc]
theorem flat_len (l : List Rc) : (flat l).length = l.length * 4 := by
  induction l with
  | nil => rfl
  | cons r l ih => show (cel r ++ flat l).length = _; rw [List.length_append, ih]; simp [cel]; omega

/-- Spans, cell by cell. -/
def flatS : List Sp → List Value
  | [] => []
  | s :: t => .int .i64 s.1 :: .int .i64 s.2 :: flatS t
theorem flatS_app (l m : List Sp) : flatS (l ++ m) = flatS l ++ flatS m := by
  induction l with
  | nil => rfl
  | cons s l ih => simp [flatS, ih]
theorem flatS_len (l : List Sp) : (flatS l).length = l.length * 2 := by
  induction l with
  | nil => rfl
  | cons s l ih => simp [flatS, ih]; omega
theorem flatS_at (l : List Sp) (k : Nat) (h : k < l.length) : (flatS l)[k * 2]? = some (.int .i64 l[k].1) ∧ (flatS l)[k * 2 + 1]? = some (.int .i64 l[k].2) := by
  induction l generalizing k with
  | nil => simp at h
  | cons s l ih =>
    cases k with
    | zero => simp [flatS]
    | succ k =>
      have h' : k < l.length := by simpa using h
      obtain ⟨i0, i1⟩ := ih k h'
      rw [show (k + 1) * 2 = k * 2 + 1 + 1 by omega, show k * 2 + 1 + 1 + 1 = (k * 2 + 1) + 1 + 1 by omega]
      simpa [flatS] using ⟨i0, i1⟩
/-- A block's cells written out. -/
def Bk (W : World) (b : Nat) (vs : Array Value) (t : TypeId) : Prop := W.heap[b]? = some (.cells vs t)
theorem Bk.lt {W : World} {b : Nat} {vs : Array Value} {t : TypeId} (h : Bk W b vs t) : b < W.heap.size := (Array.getElem?_eq_some_iff.1 h).1
theorem Bk.cell {W : World} {b : Nat} {vs : Array Value} {t : TypeId} (h : Bk W b vs t) (o : Nat) : W.cell? ⟨b, o, none⟩ = vs[o]? := by
  simp [World.cell?, show W.heap[b]? = _ from h]
theorem Bk.frozen {W : World} {b : Nat} {vs : Array Value} {t : TypeId} (h : Bk W b vs t) (o : Nat) : W.frozen? ⟨b, o, none⟩ = false := by
  simp [World.frozen?, show W.heap[b]? = _ from h]
theorem Bk.below {W W' : World} {b : Nat} {vs : Array Value} {t : TypeId} (h : Bk W b vs t) (hb : Below W.heap.size W W') : Bk W' b vs t := (hb.block b h.lt).trans h
theorem Bk.new (W : World) (vs : Array Value) (t : TypeId) : Bk (W.alloc (.cells vs t)) W.heap.size vs t := by
  show (W.heap.push (.cells vs t))[W.heap.size]? = _
  exact Array.getElem?_push_size
theorem Bk.put {W : World} {b : Nat} {vs : Array Value} {t : TypeId} (h : Bk W b vs t) (o : Nat) (v : Value) : Bk (W.setCell ⟨b, o, none⟩ v) b (vs.setIfInBounds o v) t := heap_setCell_same W b o vs t v h
theorem Bk.other {W : World} {b : Nat} {vs : Array Value} {t : TypeId} (h : Bk W b vs t) (p : Addr) (v : Value) (hp : p.block ≠ b) : Bk (W.setCell p v) b vs t :=
  (Below.heap_setCell _ _ _ b (fun e => hp e.symm)).trans h
theorem Bk.at2 {W : World} {b : Nat} {a0 a1 : Value} {t : TypeId} (h : Bk W b #[a0, a1] t) : W.cell? ⟨b, 0, none⟩ = some a0 ∧ W.cell? ⟨b, 1, none⟩ = some a1 := ⟨by rw [h.cell]; rfl, by rw [h.cell]; rfl⟩
/-- An append onto a row that lies elsewhere. -/
theorem Bk.grown {W W' : World} {b : Nat} {vs : Array Value} {t : TypeId} (h : Bk W b vs t) {row : Option Nat} (hg : W.grownBy W' row) (hb : row ≠ some b) : Bk W' b vs t := (hg.block b h.lt (fun e => hb e.symm)).trans h
/-- A slice that holds spans. -/
def SpL (w : World) (v : Value) (l : List Sp) : Prop := ∃ oa cap, v = .slice oa l.length cap ∧ l.length ≤ cap ∧ (0 < l.length → ∃ g cs, oa = some ⟨g, 0, none⟩ ∧ Bk w g cs 79 ∧ ∀ i (h : i < l.length), cs[i * 2]? = some (.int .i64 l[i].1) ∧ cs[i * 2 + 1]? = some (.int .i64 l[i].2))
theorem SpL.below {w w' : World} {v : Value} {l : List Sp} (h : SpL w v l) (hb : Below w.heap.size w w') : SpL w' v l := by
  obtain ⟨oa, cap, e, hc, hg⟩ := h
  refine ⟨oa, cap, e, hc, fun hp => ?_⟩
  obtain ⟨g, cs, e1, g1, g2⟩ := hg hp
  exact ⟨g, cs, e1, g1.below hb, g2⟩
/-- A store into a block of another kind. -/
theorem SpL.other {w : World} {v : Value} {l : List Sp} (h : SpL w v l) {b : Nat} {vs : Array Value} {t : TypeId} (hb : Bk w b vs t) (ht : t ≠ 79) (o : Nat) (x : Value) : SpL (w.setCell ⟨b, o, none⟩ x) v l := by
  obtain ⟨oa, cap, e, hc, hg⟩ := h
  refine ⟨oa, cap, e, hc, fun hp => ?_⟩
  obtain ⟨g, cs, e1, g1, g2⟩ := hg hp
  refine ⟨g, cs, e1, g1.other _ _ (fun he => ?_), g2⟩
  have he' : b = g := he
  subst he'
  have := hb.symm.trans g1
  injection this with this
  injection this with _ this _
  exact ht this
/-- An append onto a row of another kind. -/
theorem SpL.grown {w w' : World} {v : Value} {l : List Sp} (h : SpL w v l) {base : Nat} {e : TypeId} {size n : Nat} {u : Value} {xs : List Value} (hr : w.ownsRow base e size u n xs) (he : e ≠ 79) (hg : w.grownBy w' u.ownBlock) : SpL w' v l := by
  obtain ⟨oa, cap, ev, hc, hgg⟩ := h
  refine ⟨oa, cap, ev, hc, fun hp => ?_⟩
  obtain ⟨g, cs, e1, g1, g2⟩ := hgg hp
  refine ⟨g, cs, e1, g1.grown hg (fun hx => ?_), g2⟩
  obtain ⟨_, h | ⟨g', cap', cur, rfl, _, hcur, _⟩⟩ := hr
  · rw [h.1] at hx; cases hx
  · simp [Value.ownBlock] at hx
    subst hx
    have := g1.symm.trans hcur
    injection this with this
    injection this with _ this _
    exact he this.symm
theorem SpL.cells {w : World} {v : Value} {l : List Sp} (h : SpL w v l) : ∃ oa cap, v = .slice oa l.length cap ∧ l.length ≤ cap ∧ (0 < l.length → ∃ g, oa = some ⟨g, 0, none⟩ ∧ g < w.heap.size ∧ ∀ i (h : i < l.length), w.cell? ⟨g, i * 2, none⟩ = some (.int .i64 l[i].1) ∧ w.cell? ⟨g, i * 2 + 1, none⟩ = some (.int .i64 l[i].2)) := by
  obtain ⟨oa, cap, e, hc, hg⟩ := h
  refine ⟨oa, cap, e, hc, fun hp => ?_⟩
  obtain ⟨g, cs, e1, g1, g2⟩ := hg hp
  exact ⟨g, e1, g1.lt, fun i hi => by rw [g1.cell, g1.cell]; exact g2 i hi⟩
theorem spl_own {w : World} {base : Nat} {v : Value} {l : List Sp} (h : w.ownsRow base 79 2 v l.length (flatS l)) : ∃ oa cap, v = .slice oa l.length cap ∧ l.length ≤ cap ∧ SpL w (.slice oa l.length l.length) l := by
  obtain ⟨hl, h⟩ := h
  rcases h with ⟨rfl, h0⟩ | ⟨g, cap, cur, rfl, _, hc, h1, _, _, h2⟩
  · exact ⟨none, 0, by rw [h0], by omega, none, l.length, rfl, Nat.le_refl _, fun h => by omega⟩
  · refine ⟨_, cap, rfl, h1, _, l.length, rfl, Nat.le_refl _, fun _ => ⟨g, cur, rfl, hc, fun i hi => ?_⟩⟩
    obtain ⟨a, b⟩ := flatS_at l i hi
    rw [← h2, List.getElem?_take, if_pos (by omega), Array.getElem?_toList] at a b
    exact ⟨a, b⟩

theorem own_cell {w : World} {base : Nat} {e : TypeId} {size n g cap : Nat} {xs : List Value} (h : w.ownsRow base e size (.slice (some ⟨g, 0, none⟩) n cap) n xs) (j : Nat) (hj : j < n * size) : w.cell? ⟨g, j, none⟩ = xs[j]? := h.cellAt j hj
theorem own_frozen {w : World} {base : Nat} {e : TypeId} {size n g cap : Nat} {xs : List Value} (h : w.ownsRow base e size (.slice (some ⟨g, 0, none⟩) n cap) n xs) (j : Nat) : w.frozen? ⟨g, j, none⟩ = false := by
  obtain ⟨_, ⟨h, _⟩ | ⟨g', cap', cur, h, _, hc, _⟩⟩ := h
  · cases h
  · injection h with h1 _ _
    injection h1 with h1
    injection h1 with h1 _ _
    subst h1
    simp [World.frozen?, hc]
/-- A store into a row of one's own. -/
theorem own_set {w : World} {base : Nat} {e : TypeId} {size n g cap : Nat} {xs : List Value} (h : w.ownsRow base e size (.slice (some ⟨g, 0, none⟩) n cap) n xs) (j : Nat) (v : Value) :
    (w.setCell ⟨g, j, none⟩ v).ownsRow base e size (.slice (some ⟨g, 0, none⟩) n cap) n (xs.set j v) := by
  obtain ⟨hl, ⟨h, _⟩ | ⟨g', cap', cur, h, hb, hc, h1, h2, h3, h4⟩⟩ := h
  · cases h
  · injection h with e1 _ e3
    injection e1 with e1
    injection e1 with e1 _ _
    subst e1 e3
    refine ⟨by rw [List.length_set]; exact hl, .inr ⟨g, cap, cur.setIfInBounds j v, rfl, hb, ?_, h1, h2, by simpa using h3, ?_⟩⟩
    · exact heap_setCell_same w g j cur e v hc
    · rw [Array.toList_setIfInBounds, List.take_set, h4]
theorem runA_snoc (s : Sp) (a b : Int) : ∀ l : List Sp, runA (l ++ [s]) a b = if a ≤ s.2 then l ++ [(s.1, max s.2 b)] else l ++ [s, (a, b)]
  | [] => by simp [runA]
  | [q] => by
    show runA (q :: [s]) a b = _
    rw [runA]
    · rw [runA]; split <;> rfl
    · intro h; cases h
  | q :: u :: t => by
    have ih := runA_snoc s a b (u :: t)
    show runA (q :: (u :: t ++ [s])) a b = _
    rw [runA]
    · rw [ih]; split <;> rfl
    · intro h; cases h

theorem info_span : (Try.prog.info? 79).map (fun i => (i.zero, i.size, i.bytes)) = some (some (.agg #[.int .i64 0, .int .i64 0]), 2, 16) := by kernel_rfl
theorem info_rect : (Try.prog.info? 35).map (fun i => (i.zero, i.size, i.bytes)) = some (some (.agg #[.int .i64 0, .int .i64 0, .int .i64 0, .int .i64 0]), 4, 32) := by kernel_rfl

/-- A list's errors. -/
def lisE (rs : List Rc) : Int := if 1024 < rs.length then 4 else if rs.all (fun r => mayB r.x r.y r.w r.h) = true then 0 else 5

set_option maxHeartbeats 1000000 in
theorem listed_any (rs : List Rc) (v : Value) (w : World) (hv : LsR w v rs) (hs : ∀ r ∈ rs, I64 r.x ∧ I64 r.y) :
    Calls Try.prog 41 #[v] w fun e w' => e = .returned (.int .i64 (lisE rs)) ∧ Below w.heap.size w w' := by
  obtain ⟨oa, cap, rfl, hc, hg⟩ := hv
  have HG : Hid (0 < rs.length → ∃ g o, oa = some ⟨g, o, none⟩ ∧ g < w.heap.size ∧ ∀ i (h : i < rs.length), RcAt w g (o + i * 4) rs[i]) := hg
  have HH : Hid (∀ r ∈ rs, I64 r.x ∧ I64 r.y) := hs
  clear hg hs
  unfold lisE
  by_cases hm : 1024 < rs.length
  · rw [if_pos hm]
    go_enter Try.func41, Try.ntmps41
    go_wp2
    go_ret
    exact ⟨rfl, Below.refl _ _⟩
  rw [if_neg hm]
  obtain ⟨R, hR⟩ : ∃ R : Int, (if rs.all (fun r => mayB r.x r.y r.w r.h) = true then 0 else 5) = R := ⟨_, rfl⟩
  rw [hR]
  have HF : Hid ((rs.all (fun r => mayB r.x r.y r.w r.h) = false → R = 5) ∧ (rs.all (fun r => mayB r.x r.y r.w r.h) = true → R = 0)) := ⟨fun h => by rw [← hR, h]; rfl, fun h => by rw [← hR, h]; rfl⟩
  clear hR
  go_enter Try.func41, Try.ntmps41
  go_wp2_with fail
  go_loopw [11] (fun i wr => ∃ k : Nat, k ≤ rs.length ∧ i = .int .i64 k ∧ (rs.take k).all (fun r => mayB r.x r.y r.w r.h) = true ∧ Below w.heap.size w wr) (fun i _ => rs.length - (intOf i).toNat)
  case atStart => exact ⟨0, Nat.zero_le _, rfl, rfl, Below.refl _ _⟩
  case round =>
    obtain ⟨k, hk, rfl, ha, L⟩ := hrel
    by_cases hlt : k < rs.length
    · obtain ⟨g, o, rfl, hg, hat⟩ := HG.out (by omega)
      have hx := (hat k hlt).kept (w' := wr) fun j => L.cell (p := ⟨g, j, none⟩) hg
      have e1 : rs.take (k + 1) = rs.take k ++ [rs[k]] := (List.take_append_getElem hlt).symm
      have e2 : (rs.take (k + 1)).all (fun r => mayB r.x r.y r.w r.h) = mayB rs[k].x rs[k].y rs[k].w rs[k].h := by rw [e1, List.all_append, ha]; simp
      have e3 : mayB rs[k].x rs[k].y rs[k].w rs[k].h = false → R = 5 := fun h => HF.out.1 <| by
        rw [List.all_eq_false]; exact ⟨rs[k], List.getElem_mem hlt, by rw [h]; simp⟩
      obtain ⟨i1, i2⟩ := HH.out _ (List.getElem_mem hlt)
      have HR : Hid (∀ w, Calls Try.prog 50 #[.agg #[.int .i64 rs[k].x, .int .i64 rs[k].y, .int .i64 rs[k].w, .int .i64 rs[k].h]] w fun e w' => e = .returned (.int .i64 (chk rs[k].x rs[k].y rs[k].w rs[k].h)) ∧ Below w.heap.size w w') := fun w => check_any _ _ _ _ w i1 i2
      have hch := chk_ne rs[k].x rs[k].y rs[k].w rs[k].h
      have hch5 : mayB rs[k].x rs[k].y rs[k].w rs[k].h = false → chk rs[k].x rs[k].y rs[k].w rs[k].h = 5 := fun h => by unfold chk; rw [h]; rfl
      have hch0 : mayB rs[k].x rs[k].y rs[k].w rs[k].h = true → chk rs[k].x rs[k].y rs[k].w rs[k].h = 0 := fun h => by unfold chk; rw [h]; rfl
      have L' : Below w.heap.size w (wr.alloc (.cells #[.int .i64 rs[k].x, .int .i64 rs[k].y, .int .i64 rs[k].w, .int .i64 rs[k].h] 35)) := L.alloc L.size _
      have HL : Hid ((rs.take (k + 1)).all (fun r => mayB r.x r.y r.w r.h) = mayB rs[k].x rs[k].y rs[k].w rs[k].h ∧ (mayB rs[k].x rs[k].y rs[k].w rs[k].h = false → R = 5) ∧ Below w.heap.size w (wr.alloc (.cells #[.int .i64 rs[k].x, .int .i64 rs[k].y, .int .i64 rs[k].w, .int .i64 rs[k].h] 35))) := ⟨e2, e3, L'⟩
      clear e1 e2 e3 L L' hat ha hch i1 i2
      generalize mayB rs[k].x rs[k].y rs[k].w rs[k].h = b at *
      generalize chk rs[k].x rs[k].y rs[k].w rs[k].h = c at *
      generalize rs[k] = x at *
      obtain ⟨x0, x1, x2, x3⟩ := hx
      have HE : Hid (b = false → R = 5) := HL.out.2.1
      cases b
      · obtain rfl : c = 5 := hch5 rfl
        clear hch5 hch0
        go_wp2_with fail
        refine (HR.out _).mono ?_
        rintro e w1 ⟨rfl, hb⟩
        have H1 : Hid (Below w.heap.size w w1) := HL.out.2.2.trans (hb.mono HL.out.2.2.size)
        clear hb
        go_wp2
        go_ret
        have e5 : R = 5 := by first | exact HE.out rfl | exact HE.out trivial
        exact ⟨by rw [e5]; rfl, H1.out⟩
      · obtain rfl : c = 0 := hch0 rfl
        clear hch5 hch0
        go_wp2_with fail
        refine (HR.out _).mono ?_
        rintro e w1 ⟨rfl, hb⟩
        have H1 : Hid (Below w.heap.size w w1) := HL.out.2.2.trans (hb.mono HL.out.2.2.size)
        clear hb
        go_wp2
        go_roundw
        case rel => exact ⟨k + 1, by omega, by go_num, HL.out.1, H1.out⟩
        case measure => simp [intOf]; omega
    · obtain rfl : k = rs.length := by omega
      rw [List.take_length] at ha
      go_wp2
      go_ret
      have e5 := HF.out.2 ha
      exact ⟨by rw [e5]; rfl, L⟩

end Go.Proofs.Ytagkbpceiedikaa
