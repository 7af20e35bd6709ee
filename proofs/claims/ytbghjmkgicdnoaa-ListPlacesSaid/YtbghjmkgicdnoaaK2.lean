/-
  Texts of this claim, one behind the other: what each is about stands ahead of it.
-/
import Derived.Test.YtbghjmkgicdnoaaK1
import Derived.Deep.AppendLies
import Derived.BigQuiet
/-
  Lists of rectangles and of spans in memory; contracts of package region: a list's errors, the runs of a row.
-/
namespace Go.Proofs.Ytbghjmkgicdnoaa
open Go.RowKit
attribute [local go_sem] ite_max ite_min

/-- A rectangle in memory, from a place of a block on. -/
def RcAt (w : World) (g o : Nat) (r : Rc) : Prop := w.cell? ⟨g, o, none⟩ = some (.int .i64 r.x) ∧ w.cell? ⟨g, o + 1, none⟩ = some (.int .i64 r.y) ∧ w.cell? ⟨g, o + 2, none⟩ = some (.int .i64 r.w) ∧ w.cell? ⟨g, o + 3, none⟩ = some (.int .i64 r.h)
theorem RcAt.kept {w w' : World} {g o : Nat} {r : Rc} (h : RcAt w g o r) (k : ∀ j, w'.cell? ⟨g, j, none⟩ = w.cell? ⟨g, j, none⟩) : RcAt w' g o r := by
  unfold RcAt; rw [k, k, k, k]; exact h
/-- A slice that holds rectangles. -/
def LsR (w : World) (v : Value) (rs : List Rc) : Prop := ∃ oa cap, v = .slice oa rs.length cap ∧ rs.length ≤ cap ∧ (0 < rs.length → ∃ g o, oa = some ⟨g, o, none⟩ ∧ g < w.heap.size ∧ ∀ i (h : i < rs.length), RcAt w g (o + i * 4) rs[i])
theorem LsR.below {w w' : World} {v : Value} {rs : List Rc} (h : LsR w v rs) (hb : Below w.heap.size w w') : LsR w' v rs := by
  obtain ⟨oa, cap, e, hc, hg⟩ := h
  refine ⟨oa, cap, e, hc, fun hp => ?_⟩
  obtain ⟨g, o, e1, g1, g2⟩ := hg hp
  exact ⟨g, o, e1, Nat.lt_of_lt_of_le g1 hb.size, fun i hi => (g2 i hi).kept fun j => hb.cell (p := ⟨g, j, none⟩) g1⟩
theorem flat_at (l : List Rc) (k : Nat) (h : k < l.length) : (flat l)[k * 4]? = some (.int .i64 l[k].x) ∧ (flat l)[k * 4 + 1]? = some (.int .i64 l[k].y) ∧ (flat l)[k * 4 + 2]? = some (.int .i64 l[k].w) ∧ (flat l)[k * 4 + 3]? = some (.int .i64 l[k].h) := by
  induction l generalizing k with
  | nil => simp at h
  | cons r l ih =>
    cases k with
    | zero => simp [flat, cel]
    | succ k =>
      have e : ∀ j, (flat (r :: l))[(k + 1) * 4 + j]? = (flat l)[k * 4 + j]? := fun j => by
        show (cel r ++ flat l)[(k + 1) * 4 + j]? = _
        rw [List.getElem?_append_right (by simp [cel]; omega)]
        congr 1
        simp [cel]
        omega
      have h' : k < l.length := by simpa using h
      obtain ⟨i0, i1, i2, i3⟩ := ih k h'
      have e0 := e 0
      rw [Nat.add_zero, Nat.add_zero] at e0
      exact ⟨e0.trans i0, (e 1).trans i1, (e 2).trans i2, (e 3).trans i3⟩
theorem flat_app (l m : List Rc) : flat (l ++ m) = flat l ++ flat m := by
  induction l with
  | nil => rfl
  | cons r l ih => show cel r ++ flat (l ++ m) = (cel r ++ flat l) ++ flat m; rw [ih, List.append_assoc]
theorem flat_len (l : List Rc) : (flat l).length = l.length * 4 := by
  induction l with
  | nil => rfl
  | cons r l ih => show (cel r ++ flat l).length = _; rw [List.length_append, ih]; simp [cel]; omega

/-- Spans, cell by cell. -/
def flatS : List Sp → List Value
  | [] => []
  | s :: t => .int .i64 s.1 :: .int .i64 s.2 :: flatS t
theorem flatS_app (l m : List Sp) : flatS (l ++ m) = flatS l ++ flatS m := by
  induction l with
  | nil => rfl
  | cons s l ih => simp [flatS, ih]
theorem flatS_len (l : List Sp) : (flatS l).length = l.length * 2 := by
  induction l with
  | nil => rfl
  | cons s l ih => simp [flatS, ih]; omega
theorem flatS_at (l : List Sp) (k : Nat) (h : k < l.length) : (flatS l)[k * 2]? = some (.int .i64 l[k].1) ∧ (flatS l)[k * 2 + 1]? = some (.int .i64 l[k].2) := by
  induction l generalizing k with
  | nil => simp at h
  | cons s l ih =>
    cases k with
    | zero => simp [flatS]
    | succ k =>
      have h' : k < l.length := by simpa using h
      obtain ⟨i0, i1⟩ := ih k h'
      rw [show (k + 1) * 2 = k * 2 + 1 + 1 by omega, show k * 2 + 1 + 1 + 1 = (k * 2 + 1) + 1 + 1 by omega]
      simpa [flatS] using ⟨i0, i1⟩
/-- A block's cells written out. -/
def Bk (W : World) (b : Nat) (vs : Array Value) (t : TypeId) : Prop := W.heap[b]? = some (.cells vs t)
theorem Bk.lt {W : World} {b : Nat} {vs : Array Value} {t : TypeId} (h : Bk W b vs t) : b < W.heap.size := (Array.getElem?_eq_some_iff.1 h).1
theorem Bk.cell {W : World} {b : Nat} {vs : Array Value} {t : TypeId} (h : Bk W b vs t) (o : Nat) : W.cell? ⟨b, o, none⟩ = vs[o]? := by
  simp [World.cell?, show W.heap[b]? = _ from h]
theorem Bk.frozen {W : World} {b : Nat} {vs : Array Value} {t : TypeId} (h : Bk W b vs t) (o : Nat) : W.frozen? ⟨b, o, none⟩ = false := by
  simp [World.frozen?, show W.heap[b]? = _ from h]
theorem Bk.below {W W' : World} {b : Nat} {vs : Array Value} {t : TypeId} (h : Bk W b vs t) (hb : Below W.heap.size W W') : Bk W' b vs t := (hb.block b h.lt).trans h
theorem Bk.new (W : World) (vs : Array Value) (t : TypeId) : Bk (W.alloc (.cells vs t)) W.heap.size vs t := by
  show (W.heap.push (.cells vs t))[W.heap.size]? = _
  exact Array.getElem?_push_size
theorem Bk.put {W : World} {b : Nat} {vs : Array Value} {t : TypeId} (h : Bk W b vs t) (o : Nat) (v : Value) : Bk (W.setCell ⟨b, o, none⟩ v) b (vs.setIfInBounds o v) t := heap_setCell_same W b o vs t v h
theorem Bk.other {W : World} {b : Nat} {vs : Array Value} {t : TypeId} (h : Bk W b vs t) (p : Addr) (v : Value) (hp : p.block ≠ b) : Bk (W.setCell p v) b vs t :=
  (Below.heap_setCell _ _ _ b (fun e => hp e.symm)).trans h
theorem Bk.at2 {W : World} {b : Nat} {a0 a1 : Value} {t : TypeId} (h : Bk W b #[a0, a1] t) : W.cell? ⟨b, 0, none⟩ = some a0 ∧ W.cell? ⟨b, 1, none⟩ = some a1 := ⟨by rw [h.cell]; rfl, by rw [h.cell]; rfl⟩
/-- An append onto a row that lies elsewhere. -/
theorem Bk.grown {W W' : World} {b : Nat} {vs : Array Value} {t : TypeId} (h : Bk W b vs t) {row : Option Nat} (hg : W.grownBy W' row) (hb : row ≠ some b) : Bk W' b vs t := (hg.block b h.lt (fun e => hb e.symm)).trans h
/-- A slice that holds spans. -/
def SpL (w : World) (v : Value) (l : List Sp) : Prop := ∃ oa cap, v = .slice oa l.length cap ∧ l.length ≤ cap ∧ (0 < l.length → ∃ g cs, oa = some ⟨g, 0, none⟩ ∧ Bk w g cs 104 ∧ ∀ i (h : i < l.length), cs[i * 2]? = some (.int .i64 l[i].1) ∧ cs[i * 2 + 1]? = some (.int .i64 l[i].2))
theorem SpL.below {w w' : World} {v : Value} {l : List Sp} (h : SpL w v l) (hb : Below w.heap.size w w') : SpL w' v l := by
  obtain ⟨oa, cap, e, hc, hg⟩ := h
  refine ⟨oa, cap, e, hc, fun hp => ?_⟩
  obtain ⟨g, cs, e1, g1, g2⟩ := hg hp
  exact ⟨g, cs, e1, g1.below hb, g2⟩
/-- A store into a block of another kind. -/
theorem SpL.other {w : World} {v : Value} {l : List Sp} (h : SpL w v l) {b : Nat} {vs : Array Value} {t : TypeId} (hb : Bk w b vs t) (ht : t ≠ 104) (o : Nat) (x : Value) : SpL (w.setCell ⟨b, o, none⟩ x) v l := by
  obtain ⟨oa, cap, e, hc, hg⟩ := h
  refine ⟨oa, cap, e, hc, fun hp => ?_⟩
  obtain ⟨g, cs, e1, g1, g2⟩ := hg hp
  refine ⟨g, cs, e1, g1.other _ _ (fun he => ?_), g2⟩
  have he' : b = g := he
  subst he'
  have := hb.symm.trans g1
  injection this with this
  injection this with _ this _
  exact ht this
/-- An append onto a row of another kind. -/
theorem SpL.grown {w w' : World} {v : Value} {l : List Sp} (h : SpL w v l) {base : Nat} {e : TypeId} {size n : Nat} {u : Value} {xs : List Value} (hr : w.ownsRow base e size u n xs) (he : e ≠ 104) (hg : w.grownBy w' u.ownBlock) : SpL w' v l := by
  obtain ⟨oa, cap, ev, hc, hgg⟩ := h
  refine ⟨oa, cap, ev, hc, fun hp => ?_⟩
  obtain ⟨g, cs, e1, g1, g2⟩ := hgg hp
  refine ⟨g, cs, e1, g1.grown hg (fun hx => ?_), g2⟩
  obtain ⟨_, h | ⟨g', cap', cur, rfl, _, hcur, _⟩⟩ := hr
  · rw [h.1] at hx; cases hx
  · simp [Value.ownBlock] at hx
    subst hx
    have := g1.symm.trans hcur
    injection this with this
    injection this with _ this _
    exact he this.symm
theorem SpL.cells {w : World} {v : Value} {l : List Sp} (h : SpL w v l) : ∃ oa cap, v = .slice oa l.length cap ∧ l.length ≤ cap ∧ (0 < l.length → ∃ g, oa = some ⟨g, 0, none⟩ ∧ g < w.heap.size ∧ ∀ i (h : i < l.length), w.cell? ⟨g, i * 2, none⟩ = some (.int .i64 l[i].1) ∧ w.cell? ⟨g, i * 2 + 1, none⟩ = some (.int .i64 l[i].2)) := by
  obtain ⟨oa, cap, e, hc, hg⟩ := h
  refine ⟨oa, cap, e, hc, fun hp => ?_⟩
  obtain ⟨g, cs, e1, g1, g2⟩ := hg hp
  exact ⟨g, e1, g1.lt, fun i hi => by rw [g1.cell, g1.cell]; exact g2 i hi⟩
theorem spl_own {w : World} {base : Nat} {v : Value} {l : List Sp} (h : w.ownsRow base 104 2 v l.length (flatS l)) : ∃ oa cap, v = .slice oa l.length cap ∧ l.length ≤ cap ∧ SpL w (.slice oa l.length l.length) l := by
  obtain ⟨hl, h⟩ := h
  rcases h with ⟨rfl, h0⟩ | ⟨g, cap, cur, rfl, _, hc, h1, _, _, h2⟩
  · exact ⟨none, 0, by rw [h0], by omega, none, l.length, rfl, Nat.le_refl _, fun h => by omega⟩
  · refine ⟨_, cap, rfl, h1, _, l.length, rfl, Nat.le_refl _, fun _ => ⟨g, cur, rfl, hc, fun i hi => ?_⟩⟩
    obtain ⟨a, b⟩ := flatS_at l i hi
    rw [← h2, List.getElem?_take, if_pos (by omega), Array.getElem?_toList] at a b
    exact ⟨a, b⟩

theorem own_cell {w : World} {base : Nat} {e : TypeId} {size n g cap : Nat} {xs : List Value} (h : w.ownsRow base e size (.slice (some ⟨g, 0, none⟩) n cap) n xs) (j : Nat) (hj : j < n * size) : w.cell? ⟨g, j, none⟩ = xs[j]? := h.cellAt j hj
theorem own_frozen {w : World} {base : Nat} {e : TypeId} {size n g cap : Nat} {xs : List Value} (h : w.ownsRow base e size (.slice (some ⟨g, 0, none⟩) n cap) n xs) (j : Nat) : w.frozen? ⟨g, j, none⟩ = false := by
  obtain ⟨_, ⟨h, _⟩ | ⟨g', cap', cur, h, _, hc, _⟩⟩ := h
  · cases h
  · injection h with h1 _ _
    injection h1 with h1
    injection h1 with h1 _ _
    subst h1
    simp [World.frozen?, hc]
/-- A store into a row of one's own. -/
theorem own_set {w : World} {base : Nat} {e : TypeId} {size n g cap : Nat} {xs : List Value} (h : w.ownsRow base e size (.slice (some ⟨g, 0, none⟩) n cap) n xs) (j : Nat) (v : Value) :
    (w.setCell ⟨g, j, none⟩ v).ownsRow base e size (.slice (some ⟨g, 0, none⟩) n cap) n (xs.set j v) := by
  obtain ⟨hl, ⟨h, _⟩ | ⟨g', cap', cur, h, hb, hc, h1, h2, h3, h4⟩⟩ := h
  · cases h
  · injection h with e1 _ e3
    injection e1 with e1
    injection e1 with e1 _ _
    subst e1 e3
    refine ⟨by rw [List.length_set]; exact hl, .inr ⟨g, cap, cur.setIfInBounds j v, rfl, hb, ?_, h1, h2, by simpa using h3, ?_⟩⟩
    · exact heap_setCell_same w g j cur e v hc
    · rw [Array.toList_setIfInBounds, List.take_set, h4]
theorem runA_snoc (s : Sp) (a b : Int) : ∀ l : List Sp, runA (l ++ [s]) a b = if a ≤ s.2 then l ++ [(s.1, max s.2 b)] else l ++ [s, (a, b)]
  | [] => by simp [runA]
  | [q] => by
    show runA (q :: [s]) a b = _
    rw [runA]
    · rw [runA]; split <;> rfl
    · intro h; cases h
  | q :: u :: t => by
    have ih := runA_snoc s a b (u :: t)
    show runA (q :: (u :: t ++ [s])) a b = _
    rw [runA]
    · rw [ih]; split <;> rfl
    · intro h; cases h

theorem info_span : (Try.prog.info? 104).map (fun i => (i.zero, i.size, i.bytes)) = some (some (.agg #[.int .i64 0, .int .i64 0]), 2, 16) := by kernel_rfl
theorem info_rect : (Try.prog.info? 27).map (fun i => (i.zero, i.size, i.bytes)) = some (some (.agg #[.int .i64 0, .int .i64 0, .int .i64 0, .int .i64 0]), 4, 32) := by kernel_rfl

/-- A list's errors. -/
def lisE (rs : List Rc) : Int := if 1024 < rs.length then 4 else if rs.all (fun r => mayB r.x r.y r.w r.h) = true then 0 else 5

set_option maxHeartbeats 1000000 in
theorem listed_any (rs : List Rc) (v : Value) (w : World) (hv : LsR w v rs) (hs : ∀ r ∈ rs, I64 r.x ∧ I64 r.y) :
    Calls Try.prog 52 #[v] w fun e w' => e = .returned (.int .i64 (lisE rs)) ∧ Below w.heap.size w w' := by
  obtain ⟨oa, cap, rfl, hc, hg⟩ := hv
  have HG : Hid (0 < rs.length → ∃ g o, oa = some ⟨g, o, none⟩ ∧ g < w.heap.size ∧ ∀ i (h : i < rs.length), RcAt w g (o + i * 4) rs[i]) := hg
  have HH : Hid (∀ r ∈ rs, I64 r.x ∧ I64 r.y) := hs
  clear hg hs
  unfold lisE
  by_cases hm : 1024 < rs.length
  · rw [if_pos hm]
    go_enter Try.func52, Try.ntmps52
    go_wp2
    go_ret
    exact ⟨rfl, Below.refl _ _⟩
  rw [if_neg hm]
  obtain ⟨R, hR⟩ : ∃ R : Int, (if rs.all (fun r => mayB r.x r.y r.w r.h) = true then 0 else 5) = R := ⟨_, rfl⟩
  rw [hR]
  have HF : Hid ((rs.all (fun r => mayB r.x r.y r.w r.h) = false → R = 5) ∧ (rs.all (fun r => mayB r.x r.y r.w r.h) = true → R = 0)) := ⟨fun h => by rw [← hR, h]; rfl, fun h => by rw [← hR, h]; rfl⟩
  clear hR
  go_enter Try.func52, Try.ntmps52
  go_wp2_with fail
  go_loopw [11] (fun i wr => ∃ k : Nat, k ≤ rs.length ∧ i = .int .i64 k ∧ (rs.take k).all (fun r => mayB r.x r.y r.w r.h) = true ∧ Below w.heap.size w wr) (fun i _ => rs.length - (intOf i).toNat)
  case atStart => exact ⟨0, Nat.zero_le _, rfl, rfl, Below.refl _ _⟩
  case round =>
    obtain ⟨k, hk, rfl, ha, L⟩ := hrel
    by_cases hlt : k < rs.length
    · obtain ⟨g, o, rfl, hg, hat⟩ := HG.out (by omega)
      have hx := (hat k hlt).kept (w' := wr) fun j => L.cell (p := ⟨g, j, none⟩) hg
      have e1 : rs.take (k + 1) = rs.take k ++ [rs[k]] := (List.take_append_getElem hlt).symm
      have e2 : (rs.take (k + 1)).all (fun r => mayB r.x r.y r.w r.h) = mayB rs[k].x rs[k].y rs[k].w rs[k].h := by rw [e1, List.all_append, ha]; simp
      have e3 : mayB rs[k].x rs[k].y rs[k].w rs[k].h = false → R = 5 := fun h => HF.out.1 <| by
        rw [List.all_eq_false]; exact ⟨rs[k], List.getElem_mem hlt, by rw [h]; simp⟩
      obtain ⟨i1, i2⟩ := HH.out _ (List.getElem_mem hlt)
      have HR : Hid (∀ w, Calls Try.prog 49 #[.agg #[.int .i64 rs[k].x, .int .i64 rs[k].y, .int .i64 rs[k].w, .int .i64 rs[k].h]] w fun e w' => e = .returned (.int .i64 (chk rs[k].x rs[k].y rs[k].w rs[k].h)) ∧ Below w.heap.size w w') := fun w => check_any _ _ _ _ w i1 i2
      have hch := chk_ne rs[k].x rs[k].y rs[k].w rs[k].h
      have hch5 : mayB rs[k].x rs[k].y rs[k].w rs[k].h = false → chk rs[k].x rs[k].y rs[k].w rs[k].h = 5 := fun h => by unfold chk; rw [h]; rfl
      have hch0 : mayB rs[k].x rs[k].y rs[k].w rs[k].h = true → chk rs[k].x rs[k].y rs[k].w rs[k].h = 0 := fun h => by unfold chk; rw [h]; rfl
      have L' : Below w.heap.size w (wr.alloc (.cells #[.int .i64 rs[k].x, .int .i64 rs[k].y, .int .i64 rs[k].w, .int .i64 rs[k].h] 27)) := L.alloc L.size _
      have HL : Hid ((rs.take (k + 1)).all (fun r => mayB r.x r.y r.w r.h) = mayB rs[k].x rs[k].y rs[k].w rs[k].h ∧ (mayB rs[k].x rs[k].y rs[k].w rs[k].h = false → R = 5) ∧ Below w.heap.size w (wr.alloc (.cells #[.int .i64 rs[k].x, .int .i64 rs[k].y, .int .i64 rs[k].w, .int .i64 rs[k].h] 27))) := ⟨e2, e3, L'⟩
      clear e1 e2 e3 L L' hat ha hch i1 i2
      generalize mayB rs[k].x rs[k].y rs[k].w rs[k].h = b at *
      generalize chk rs[k].x rs[k].y rs[k].w rs[k].h = c at *
      generalize rs[k] = x at *
      obtain ⟨x0, x1, x2, x3⟩ := hx
      have HE : Hid (b = false → R = 5) := HL.out.2.1
      cases b
      · obtain rfl : c = 5 := hch5 rfl
        clear hch5 hch0
        go_wp2_with fail
        refine (HR.out _).mono ?_
        rintro e w1 ⟨rfl, hb⟩
        have H1 : Hid (Below w.heap.size w w1) := HL.out.2.2.trans (hb.mono HL.out.2.2.size)
        clear hb
        go_wp2
        go_ret
        have e5 : R = 5 := by first | exact HE.out rfl | exact HE.out trivial
        exact ⟨by rw [e5]; rfl, H1.out⟩
      · obtain rfl : c = 0 := hch0 rfl
        clear hch5 hch0
        go_wp2_with fail
        refine (HR.out _).mono ?_
        rintro e w1 ⟨rfl, hb⟩
        have H1 : Hid (Below w.heap.size w w1) := HL.out.2.2.trans (hb.mono HL.out.2.2.size)
        clear hb
        go_wp2
        go_roundw
        case rel => exact ⟨k + 1, by omega, by go_num, HL.out.1, H1.out⟩
        case measure => simp [intOf]; omega
    · obtain rfl : k = rs.length := by omega
      rw [List.take_length] at ha
      go_wp2
      go_ret
      have e5 := HF.out.2 ha
      exact ⟨by rw [e5]; rfl, L⟩

end Go.Proofs.Ytbghjmkgicdnoaa

/-
  Contracts of package region: the runs of a row.
-/
namespace Go.Proofs.Ytbghjmkgicdnoaa
open Go.RowKit
attribute [local go_sem] ite_max ite_min

theorem info_parts {t : TypeId} {z : Value} {s b : Nat} (h : (Try.prog.info? t).map (fun i => (i.zero, i.size, i.bytes)) = some (some z, s, b)) : ∃ i, Try.prog.info? t = some i ∧ i.zero = some z ∧ i.size = s ∧ i.bytes = b := by
  cases hi : Try.prog.info? t with
  | none => rw [hi] at h; cases h
  | some i =>
    rw [hi] at h
    simp only [Option.map_some, Option.some.injEq, Prod.mk.injEq] at h
    exact ⟨i, rfl, h.1, h.2.1, h.2.2⟩
theorem row_lt {base : Nat} {e : TypeId} {size : Nat} {v : Value} {n : Nat} {xs : List Value} {X : World} (h : X.ownsRow base e size v n xs) (g : Nat) (hg : v.ownBlock = some g) : base ≤ g ∧ g < X.heap.size := by
  obtain ⟨hl, h⟩ := h
  rcases h with ⟨rfl, _⟩ | ⟨g', cap, cur, rfl, hb, hc, _⟩
  · cases hg
  · simp [Value.ownBlock] at hg
    subst hg
    exact ⟨hb, (Array.getElem?_eq_some_iff.1 hc).1⟩
theorem row_below {base : Nat} {e : TypeId} {size : Nat} {v : Value} {n : Nat} {xs : List Value} {X Y : World} (h : X.ownsRow base e size v n xs) (hb : Below X.heap.size X Y) : Y.ownsRow base e size v n xs := by
  obtain ⟨hl, h⟩ := h
  refine ⟨hl, ?_⟩
  rcases h with h | ⟨g, cap, cur, rfl, h0, h1, h2⟩
  · exact .inl h
  · exact .inr ⟨g, cap, cur, rfl, h0, (hb.block g (Array.getElem?_eq_some_iff.1 h1).1).trans h1, h2⟩
theorem row_weaken {base base' : Nat} {e : TypeId} {size : Nat} {v : Value} {n : Nat} {xs : List Value} {X : World} (h : X.ownsRow base e size v n xs) (hb : base' ≤ base) : X.ownsRow base' e size v n xs := by
  obtain ⟨hl, h⟩ := h
  refine ⟨hl, ?_⟩
  rcases h with h | ⟨g, cap, cur, rfl, h0, h1⟩
  · exact .inl h
  · exact .inr ⟨g, cap, cur, rfl, Nat.le_trans hb h0, h1⟩
/-- The value of a row of one's own. -/
theorem row_val {base : Nat} {e : TypeId} {size : Nat} {v : Value} {n : Nat} {xs : List Value} {X : World} (h : X.ownsRow base e size v n xs) : ∃ oa cap, v = .slice oa n cap ∧ n ≤ cap ∧ (0 < n → ∃ g, oa = some ⟨g, 0, none⟩ ∧ base ≤ g ∧ g < X.heap.size) := by
  obtain ⟨hl, h⟩ := h
  rcases h with ⟨rfl, rfl⟩ | ⟨g, cap, cur, rfl, h0, h1, h2, _⟩
  · exact ⟨none, 0, rfl, Nat.le_refl _, fun h => absurd h (Nat.lt_irrefl 0)⟩
  · exact ⟨_, cap, rfl, h2, fun _ => ⟨g, rfl, h0, (Array.getElem?_eq_some_iff.1 h1).1⟩⟩
theorem cell_two (w : World) (x y : Value) (t : TypeId) : ∀ (j : Nat) (u : Value), [x, y][j]? = some u → (w.alloc (.cells #[x, y] t)).cell? ((⟨w.heap.size, 0, none⟩ : Addr).add j) = some u := by
  intro j u hj
  match j, hj with
  | 0, hj => simp at hj; subst hj; simp [Addr.add]
  | 1, hj => simp at hj; subst hj; simp [Addr.add]
theorem one2 (a b : Int) : ∀ u ∈ [Value.int .i64 a, .int .i64 b], u.oneCell' = true := by
  intro u hu
  simp at hu
  rcases hu with rfl | rfl <;> rfl
theorem app_below {B : Nat} {w w1 w4 : World} {e : TypeId} {size n : Nat} {u : Value} {xs : List Value} (hB : Below w.heap.size w w1) (ar : w1.ownsRow B e size u n xs) (hBw : w.heap.size ≤ B) (hgrow : w1.grownBy w4 u.ownBlock) : Below w.heap.size w w4 :=
  hB.grown hgrow hB.size (fun g hg => Nat.le_trans hBw (row_lt ar g hg).1)

theorem below_drewN {B : Nat} {a w : World} {n : Nat} (h : Below B a w) : Below B a (w.drewN n) := ⟨h.os, h.tape, h.output, h.size, h.block⟩
theorem flatS_set (init : List Sp) (s : Sp) (z : Int) : (flatS (init ++ [s])).set (init.length * 2 + 1) (.int .i64 z) = flatS (init ++ [(s.1, z)]) := by
  induction init with
  | nil => rfl
  | cons q t ih =>
    have e : (q :: t).length * 2 + 1 = (t.length * 2 + 1) + 1 + 1 := by simp; omega
    rw [e]
    simpa [flatS] using ih
def RInv (L : List Rc) (y : Int) (w : World) (k : Nat) (acc : List Sp) (v : Value) (wr : World) : Prop :=
  k ≤ L.length ∧ acc.length ≤ k ∧ runsF y (L.drop k) acc = runsF y L [] ∧ wr.ownsRow w.heap.size 104 2 v acc.length (flatS acc) ∧ Below w.heap.size w wr

set_option maxRecDepth 10000 in
set_option maxHeartbeats 4000000 in
theorem runs_any (L : List Rc) (v : Value) (y : Int) (w : World) (hv : LsR w v L) (hk : ∀ r ∈ L, keepE r = true) (hl : L.length ≤ 1000000) :
    Calls Try.prog 87 #[v, .int .i64 y] w fun e w' => ∃ u, e = .returned u ∧ SpL w' u (runsF y L []) ∧ Below w.heap.size w w' := by
  obtain ⟨oa, cap, rfl, hc, hg⟩ := hv
  have HG : Hid (0 < L.length → ∃ g o, oa = some ⟨g, o, none⟩ ∧ g < w.heap.size ∧ ∀ i (h : i < L.length), RcAt w g (o + i * 4) L[i]) := hg
  have HH : Hid (∀ r ∈ L, keepE r = true) := hk
  obtain ⟨i0, hi, hz0, hz1, hz2⟩ := info_parts info_span
  have HI : Hid (Try.prog.info? 104 = some i0 ∧ i0.zero = some (.agg #[.int .i64 0, .int .i64 0]) ∧ i0.size = 2 ∧ i0.bytes = 16) := ⟨hi, hz0, hz1, hz2⟩
  clear hg hk hi hz0 hz1 hz2
  obtain ⟨R, HR⟩ : ∃ R, Hid (R = runsF y L []) := ⟨_, rfl⟩
  rw [← HR.out]
  go_enter Try.func87, Try.ntmps87
  go_wp2_with fail
  go_loopw [5, 13] (fun v i wr => ∃ (k : Nat) (acc : List Sp), i = .int .i64 k ∧ RInv L y w k acc v wr) (fun _ i _ => L.length - (intOf i).toNat)
  case atStart => exact ⟨0, [], rfl, Nat.zero_le _, Nat.le_refl _, rfl, World.ownsRow_nil _ _ _ _, Below.refl _ _⟩
  case round =>
    obtain ⟨k, acc, rfl, hI⟩ := hrel
    have HV : Hid (RInv L y w k acc u5 wr) := hI
    obtain ⟨hkl, hal, hrun, hown, hBr⟩ := hI
    by_cases hlt : k < L.length
    · obtain ⟨g, o, rfl, hg, hat⟩ := HG.out (by omega)
      have hx := (hat k hlt).kept (w' := wr) fun j => hBr.cell (p := ⟨g, j, none⟩) hg
      have hd : L.drop k = L[k] :: L.drop (k + 1) := List.drop_eq_getElem_cons hlt
      have hkp := (keepE_iff _).1 (HH.out _ (List.getElem_mem hlt))
      generalize L[k] = r at *
      rw [hd, runsF] at hrun
      obtain ⟨x0, x1, x2, x3⟩ := hx
      have HB1 : Hid (∀ o, Below w.heap.size w (wr.alloc o) ∧ (wr.alloc o).ownsRow w.heap.size 104 2 u5 acc.length (flatS acc)) := fun o => ⟨hBr.alloc hBr.size o, row_below hown ((Below.refl _ wr).alloc (Nat.le_refl _) o)⟩
      obtain ⟨oa, cap2, rfl, hcap2, hoa⟩ := row_val hown
      clear hown hBr hat
      by_cases c1 : y < r.y
      · rw [if_pos (.inl c1)] at hrun
        have HRun : Hid (runsF y (L.drop (k + 1)) acc = runsF y L []) := hrun
        clear hrun hoa
        go_wp2
        exact ⟨⟨k + 1, acc, by go_num, by omega, by omega, HRun.out, (HB1.out _).2, (HB1.out _).1⟩, by simp [intOf]; omega⟩
      · by_cases c2 : r.y + r.h ≤ y
        · rw [if_pos (.inr c2)] at hrun
          have HRun : Hid (runsF y (L.drop (k + 1)) acc = runsF y L []) := hrun
          clear hrun hoa
          go_wp2
          exact ⟨⟨k + 1, acc, by go_num, by omega, by omega, HRun.out, (HB1.out _).2, (HB1.out _).1⟩, by simp [intOf]; omega⟩
        · rw [if_neg (by omega)] at hrun
          have HRun : Hid (runsF y (L.drop (k + 1)) (runA acc r.x (r.x + r.w)) = runsF y L []) := hrun
          clear hrun
          have HW : Hid (∀ W, Below wr.heap.size wr W → W.ownsRow w.heap.size 104 2 (.slice oa acc.length cap2) acc.length (flatS acc) ∧ Below w.heap.size w W) := fun W hb => ⟨row_below HV.out.2.2.2.1 hb, HV.out.2.2.2.2.trans (hb.mono HV.out.2.2.2.2.size)⟩
          rcases List.eq_nil_or_concat acc with rfl | ⟨init, s, hcc⟩
          · go_wp2_with fail
            go_quiet (fail)
            have hbW : Below wr.heap.size wr ((wr.alloc (.cells #[.int .i64 r.x, .int .i64 r.y, .int .i64 r.w, .int .i64 r.h] 27)).drewN nq) := below_drewN ((Below.refl _ wr).alloc (Nat.le_refl _) _)
            obtain ⟨W, hW⟩ : ∃ W, W = (wr.alloc (.cells #[.int .i64 r.x, .int .i64 r.y, .int .i64 r.w, .int .i64 r.h] 27)).drewN nq := ⟨_, rfl⟩
            rw [← hW] at hbW ⊢
            have HbW : Hid (Below wr.heap.size wr W) := hbW
            clear hW hbW
            obtain ⟨hi, hz0, hz1, hz2⟩ := HI.out
            have hc3 : Hid (0 + 1 ≤ maxLen) := by unfold Hid maxLen; omega
            have hc4 : Hid ((0 + 1) * 16 ≤ 140737488355328) := by unfold Hid; omega
            have Hown : Hid (∀ o1, (W.alloc o1).ownsRow w.heap.size 104 2 (.slice oa 0 cap2) 0 (flatS ([] : List Sp)) ∧ Below w.heap.size w (W.alloc o1)) := fun o1 => HW.out _ (HbW.out.alloc HbW.out.size o1)
            have hc5 : Hid (∀ o1, w.heap.size ≤ (W.alloc o1).heap.size) := fun o1 => (Hown.out o1).2.size
            go_wp2_with (at_builtin; refine wpList_append_own _ rfl _ _ 100 rfl w.heap.size 104 i0 (.agg #[.int .i64 0, .int .i64 0]) 2 16 Try.underlying100 hi hz0 hz1 hz2 rfl (by decide) (.slice oa 0 cap2) 0 (flatS ([] : List Sp)) rfl (Hown.out _).1 _ 1 1 [.int .i64 r.x, .int .i64 (r.x + r.w)] rfl rfl (cell_two _ _ _ _) (one2 _ _) hc3.out hc4.out (hc5.out _) ?_)
            intro v' w4 hown' hgrow hnil
            have H4 : Hid (w4.ownsRow w.heap.size 104 2 v' (([] : List Sp) ++ [(r.x, r.x + r.w)]).length (flatS (([] : List Sp) ++ [(r.x, r.x + r.w)])) ∧ Below w.heap.size w w4) := by
              refine ⟨?_, app_below (Hown.out _).2 (Hown.out _).1 (Nat.le_refl _) hgrow⟩
              rw [flatS_app, List.length_append]
              exact hown'
            clear hown' hgrow hnil hi hz0 hz1 hz2
            have HRel : Hid (∃ (k' : Nat) (acc : List Sp), Value.int .i64 ((k : Int) + 1) = .int .i64 k' ∧ RInv L y w k' acc v' w4) := ⟨k + 1, ([] : List Sp) ++ [(r.x, r.x + r.w)], by go_num, by omega, by simp, HRun.out, H4.out.1, H4.out.2⟩
            go_wp2
            go_roundw
            case rel => exact HRel.out
            case measure => simp [intOf]; omega
          · rw [List.concat_eq_append] at hcc
            subst hcc
            have hlen : (init ++ [s]).length = init.length + 1 := by simp
            rw [hlen] at hal hcap2 hoa HW ⊢
            obtain ⟨g2, rfl, hg2, hg3⟩ := hoa (by omega)
            have hrs := runA_snoc s r.x (r.x + r.w) init
            have hown := HV.out.2.2.2.1
            rw [hlen] at hown
            have hcel := own_cell hown (init.length * 2 + 1) (by omega)
            rw [(flatS_at (init ++ [s]) init.length (by simp)).2] at hcel
            have hfr := own_frozen hown (init.length * 2 + 1)
            have hs2 : (init ++ [s])[init.length]'(by simp) = s := by simp
            rw [hs2] at hcel
            clear hown hoa
            by_cases c3 : r.x ≤ s.2
            · rw [if_pos c3] at hrs
              go_wp2_with fail
              go_quiet (fail)
              have HRel : Hid (∀ W, Below wr.heap.size wr W → ∃ (k' : Nat) (acc : List Sp), Value.int .i64 ((k : Int) + 1) = .int .i64 k' ∧ RInv L y w k' acc (.slice (some ⟨g2, 0, none⟩) (init.length + 1) cap2) (W.setCell ⟨g2, init.length * 2 + 1, none⟩ (.int .i64 (max s.2 (r.x + r.w))))) := by
                intro W hb
                obtain ⟨ho, hB⟩ := HW.out W hb
                refine ⟨k + 1, init ++ [(s.1, max s.2 (r.x + r.w))], by go_num, by omega, by simp; omega, by rw [← HRun.out, hrs], ?_, hB.setCell (p := ⟨g2, _, none⟩) (by simpa using hg2) _⟩
                have := own_set ho (init.length * 2 + 1) (.int .i64 (max s.2 (r.x + r.w)))
                rw [flatS_set] at this
                simpa using this
              have HbW : Hid (Below wr.heap.size wr ((wr.alloc (.cells #[.int .i64 r.x, .int .i64 r.y, .int .i64 r.w, .int .i64 r.h] 27)).drewN nq)) := below_drewN ((Below.refl _ wr).alloc (Nat.le_refl _) _)
              go_wp2
              go_roundw
              case rel => exact HRel.out _ HbW.out
              case measure => simp [intOf]; omega
            · rw [if_neg c3] at hrs
              go_wp2_with fail
              go_quiet (fail)
              have hbW : Below wr.heap.size wr ((wr.alloc (.cells #[.int .i64 r.x, .int .i64 r.y, .int .i64 r.w, .int .i64 r.h] 27)).drewN nq) := below_drewN ((Below.refl _ wr).alloc (Nat.le_refl _) _)
              obtain ⟨W, hW⟩ : ∃ W, W = (wr.alloc (.cells #[.int .i64 r.x, .int .i64 r.y, .int .i64 r.w, .int .i64 r.h] 27)).drewN nq := ⟨_, rfl⟩
              rw [← hW] at hbW ⊢
              have HbW : Hid (Below wr.heap.size wr W) := hbW
              clear hW hbW
              have hcW : W.cell? ⟨g2, init.length * 2 + 1, none⟩ = some (.int .i64 s.2) := (HbW.out.cell (p := ⟨g2, init.length * 2 + 1, none⟩) hg3).trans hcel
              obtain ⟨hi, hz0, hz1, hz2⟩ := HI.out
              have hc3 : Hid (init.length + 1 + 1 ≤ maxLen) := by unfold Hid maxLen; omega
              have hc4 : Hid ((init.length + 1 + 1) * 16 ≤ 140737488355328) := by unfold Hid; omega
              have Hown : Hid (∀ o1, (W.alloc o1).ownsRow w.heap.size 104 2 (.slice (some ⟨g2, 0, none⟩) (init.length + 1) cap2) (init.length + 1) (flatS (init ++ [s])) ∧ Below w.heap.size w (W.alloc o1)) := fun o1 => HW.out _ (HbW.out.alloc HbW.out.size o1)
              have hc5 : Hid (∀ o1, w.heap.size ≤ (W.alloc o1).heap.size) := fun o1 => (Hown.out o1).2.size
              go_wp2_with (at_builtin; refine wpList_append_own _ rfl _ _ 100 rfl w.heap.size 104 i0 (.agg #[.int .i64 0, .int .i64 0]) 2 16 Try.underlying100 hi hz0 hz1 hz2 rfl (by decide) (.slice (some ⟨g2, 0, none⟩) (init.length + 1) cap2) (init.length + 1) (flatS (init ++ [s])) rfl (Hown.out _).1 _ 1 1 [.int .i64 r.x, .int .i64 (r.x + r.w)] rfl rfl (cell_two _ _ _ _) (one2 _ _) hc3.out hc4.out (hc5.out _) ?_)
              intro v' w4 hown' hgrow hnil
              have H4 : Hid (w4.ownsRow w.heap.size 104 2 v' ((init ++ [s]) ++ [(r.x, r.x + r.w)]).length (flatS ((init ++ [s]) ++ [(r.x, r.x + r.w)])) ∧ Below w.heap.size w w4) := by
                refine ⟨?_, app_below (Hown.out _).2 (Hown.out _).1 (Nat.le_refl _) hgrow⟩
                rw [flatS_app, List.length_append, hlen]
                exact hown'
              clear hown' hgrow hnil hi hz0 hz1 hz2
              have HRel : Hid (∃ (k' : Nat) (acc : List Sp), Value.int .i64 ((k : Int) + 1) = .int .i64 k' ∧ RInv L y w k' acc v' w4) := ⟨k + 1, (init ++ [s]) ++ [(r.x, r.x + r.w)], by go_num, by omega, by simp at hal ⊢; omega, by rw [← HRun.out, hrs, List.append_assoc]; rfl, H4.out.1, H4.out.2⟩
              go_wp2
              go_roundw
              case rel => exact HRel.out
              case measure => simp [intOf]; omega
    · obtain rfl : k = L.length := by omega
      rw [List.drop_length] at hrun
      obtain rfl : acc = R := by rw [HR.out]; exact hrun
      obtain ⟨oa2, cap2, rfl, hcap2, hsp⟩ := spl_own hown
      have HS : Hid (SpL wr (.slice oa2 acc.length acc.length) acc) := hsp
      clear hsp
      have HB : Hid (Below w.heap.size w wr) := hBr
      clear hown hBr hrun
      go_wp2
      go_ret
      exact ⟨_, rfl, HS.out, HB.out⟩

end Go.Proofs.Ytbghjmkgicdnoaa
