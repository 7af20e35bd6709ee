/-
  Texts of this claim, one behind the other: what each is about stands ahead of it.
-/
import Derived.Test.YtbghjmkgicdnoaaGreatK32
import Derived.Lib.SliceRun
import Derived.Laws.IdiomCopy
import Derived.Test.YtbghjmkgicdnoaaGreatK17
/-
  slices.IndexFunc, ContainsFunc, DeleteFunc of rectangles, whatever the function that is handed in.
-/
namespace Go.Proofs.YtbghjmkgicdnoaaGreat
open Go.RowKit

def rcV (r : Rc) : Value := .agg #[.int .i64 r.x, .int .i64 r.y, .int .i64 r.w, .int .i64 r.h]
/-- The first place at which a test holds, or -1. -/
def idxF (p : Rc → Bool) : List Rc → Nat → Int
  | [], _ => -1
  | x :: t, k => if p x = true then (k : Int) else idxF p t (k + 1)
theorem idxF_no (p : Rc → Bool) : ∀ (l : List Rc) (k : Nat), (∀ x ∈ l, p x = false) → idxF p l k = -1
  | [], _, _ => rfl
  | x :: t, k, h => by
    unfold idxF
    rw [h x (by simp), if_neg (by simp)]
    exact idxF_no p t _ fun y hy => h y (by simp [hy])
theorem idxF_yes (p : Rc → Bool) : ∀ (l : List Rc) (i k : Nat) (h : i < l.length), (∀ x ∈ l.take i, p x = false) → p l[i] = true → idxF p l k = ((k + i : Nat) : Int)
  | [], _, _, h, _, _ => absurd h (Nat.not_lt_zero _)
  | x :: t, 0, k, _, _, hp => by
    unfold idxF
    rw [if_pos (show p x = true from hp)]
    rfl
  | x :: t, i + 1, k, h, ha, hp => by
    have h' : i < t.length := by simpa using h
    unfold idxF
    rw [ha x (by simp), if_neg (by simp), idxF_yes p t i (k + 1) h' (fun y hy => ha y (by simp [hy])) hp]
    congr 1
    omega
theorem idxF_any (p : Rc → Bool) (l : List Rc) : decide (0 ≤ idxF p l 0) = l.any p := by
  by_cases h : l.any p = true
  · obtain ⟨x, hx, hp⟩ := List.any_eq_true.1 h
    rw [h]
    have key : ∀ (l : List Rc) (k : Nat), x ∈ l → 0 ≤ idxF p l k := by
      intro l
      induction l with
      | nil => intro k h; cases h
      | cons y t ih =>
        intro k h
        unfold idxF
        by_cases hy : p y = true
        · rw [if_pos hy]; omega
        · rw [if_neg hy]
          rcases List.mem_cons.1 h with rfl | h
          · exact absurd hp hy
          · exact ih _ h
    exact decide_eq_true (key l 0 hx)
  · have h2 : ∀ x ∈ l, p x = false := fun x hx => by
      cases e : p x
      · rfl
      · exact absurd (List.any_eq_true.2 ⟨x, hx, e⟩) h
    rw [idxF_no p l 0 h2]
    cases e : l.any p
    · rfl
    · exact absurd e h

set_option maxRecDepth 10000 in
set_option maxHeartbeats 2000000 in
theorem index_fn (F : Nat) (env : Array Value) (p : Rc → Bool) (l : List Rc) (v : Value) (w : World) (hv : LsR w v l) (eg : ∀ args w, (callFunc F args).run Tryz.prog w = .ok (.enter F args) w)
    (hC : ∀ x ∈ l, ∀ W, Below w.heap.size w W → Calls Tryz.prog F (#[.agg #[.int .i64 x.x, .int .i64 x.y, .int .i64 x.w, .int .i64 x.h]] ++ env) W fun e w' => e = .returned (.bool (p x)) ∧ Below W.heap.size W w') (hl : l.length < 1000000) :
    Calls Tryz.prog 75 #[v, .func (.func F) #[] env] w fun e w' => e = .returned (.int .i64 (idxF p l 0)) ∧ Below w.heap.size w w' := by
  obtain ⟨oa, cap, rfl, hc, hg⟩ := hv
  have HG : Hid (0 < l.length → ∃ g o, oa = some ⟨g, o, none⟩ ∧ g < w.heap.size ∧ ∀ i (h : i < l.length), RcAt w g (o + i * 4) l[i]) := hg
  have HC : Hid (∀ x ∈ l, ∀ W, Below w.heap.size w W → Calls Tryz.prog F (#[.agg #[.int .i64 x.x, .int .i64 x.y, .int .i64 x.w, .int .i64 x.h]] ++ env) W fun e w' => e = .returned (.bool (p x)) ∧ Below W.heap.size W w') := hC
  have HY : Hid ((∀ i (h : i < l.length), (∀ x ∈ l.take i, p x = false) → p l[i] = true → idxF p l 0 = (i : Int)) ∧ ((∀ x ∈ l, p x = false) → idxF p l 0 = -1)) := by
    refine ⟨fun i h ha hp => ?_, idxF_no p l 0⟩
    have := idxF_yes p l i 0 h ha hp
    rw [Nat.zero_add] at this
    exact this
  obtain ⟨R, hR⟩ : ∃ R, idxF p l 0 = R := ⟨_, rfl⟩
  rw [hR] at HY ⊢
  clear hg hC hR
  go_enter Tryz.func75, Tryz.ntmps75
  go_wp2_with fail
  go_loopw [8] (fun i wr => ∃ k : Nat, k ≤ l.length ∧ i = .int .i64 k ∧ Hid ((∀ x ∈ l.take k, p x = false) ∧ Below w.heap.size w wr)) (fun i _ => l.length - (intOf i).toNat)
  case atStart => exact ⟨0, Nat.zero_le _, rfl, fun x hx => by simp at hx, Below.refl _ _⟩
  case round =>
    obtain ⟨k, hk, rfl, HK⟩ := hrel
    by_cases hlt : k < l.length
    · have ik : (k : Int) < l.length := by omega
      obtain ⟨g, o, rfl, hg, hat⟩ := HG.out (by omega)
      obtain ⟨x0, x1, x2, x3⟩ := (hat k hlt).kept (w' := wr) fun j => HK.out.2.cell (p := ⟨g, j, none⟩) hg
      have HX := HC.out l[k] (List.getElem_mem hlt) wr HK.out.2
      have HX2 : Hid (Calls Tryz.prog F (#[.agg #[.int .i64 l[k].x, .int .i64 l[k].y, .int .i64 l[k].w, .int .i64 l[k].h]] ++ env) wr fun e w' => e = .returned (.bool (p l[k])) ∧ Below wr.heap.size wr w') := HX
      have HE : Hid ((p l[k] = false → ∀ x ∈ l.take (k + 1), p x = false) ∧ (p l[k] = true → R = (k : Int))) := by
        refine ⟨fun h x hx => ?_, fun h => HY.out.1 k hlt HK.out.1 h⟩
        rw [← List.take_append_getElem hlt] at hx
        rcases List.mem_append.1 hx with hx | hx
        · exact HK.out.1 x hx
        · have e : x = l[k] := by simpa using hx
          rw [e]; exact h
      have HB : Hid (Below w.heap.size w wr) := HK.out.2
      clear hat HX HK
      generalize l[k] = x at *
      generalize p x = pb at *
      cases pb
      · have HE2 : Hid (∀ x ∈ l.take (k + 1), p x = false) := HE.out.1 (by first | rfl | trivial)
        clear HE
        go_wp2_with fail
        refine HX2.out.mono ?_
        rintro e w1 ⟨rfl, hb1⟩
        have HRel : Hid ((∀ x ∈ l.take (k + 1), p x = false) ∧ Below w.heap.size w w1) := ⟨HE2.out, HB.out.trans (hb1.mono HB.out.size)⟩
        clear hb1
        go_wp2
        exact ⟨⟨k + 1, by omega, by go_num, HRel⟩, by simp [intOf]; omega⟩
      · have HE2 : Hid (R = (k : Int)) := HE.out.2 (by first | rfl | trivial)
        clear HE
        go_wp2_with fail
        refine HX2.out.mono ?_
        rintro e w1 ⟨rfl, hb1⟩
        have HB2 : Hid (Below w.heap.size w w1) := HB.out.trans (hb1.mono HB.out.size)
        clear hb1
        go_wp2
        go_ret
        exact ⟨by rw [HE2.out]; rfl, HB2.out⟩
    · obtain rfl : k = l.length := by omega
      have HE2 : Hid (R = -1 ∧ Below w.heap.size w wr) := by
        have h := HK.out.1
        rw [List.take_length] at h
        exact ⟨HY.out.2 h, HK.out.2⟩
      clear HK
      go_wp2
      go_ret
      exact ⟨by rw [HE2.out.1]; rfl, HE2.out.2⟩

set_option maxHeartbeats 2000000 in
theorem contains_fn (F : Nat) (env : Array Value) (p : Rc → Bool) (l : List Rc) (v : Value) (w : World) (hv : LsR w v l) (eg : ∀ args w, (callFunc F args).run Tryz.prog w = .ok (.enter F args) w)
    (hC : ∀ x ∈ l, ∀ W, Below w.heap.size w W → Calls Tryz.prog F (#[.agg #[.int .i64 x.x, .int .i64 x.y, .int .i64 x.w, .int .i64 x.h]] ++ env) W fun e w' => e = .returned (.bool (p x)) ∧ Below W.heap.size W w') (hl : l.length < 1000000) :
    Calls Tryz.prog 64 #[v, .func (.func F) #[] env] w fun e w' => e = .returned (.bool (l.any p)) ∧ Below w.heap.size w w' := by
  have H : Hid (Calls Tryz.prog 75 #[v, .func (.func F) #[] env] w fun e w' => e = .returned (.int .i64 (idxF p l 0)) ∧ Below w.heap.size w w') := index_fn F env p l v w hv eg hC hl
  have HD : Hid (decide (0 ≤ idxF p l 0) = l.any p) := idxF_any p l
  rw [← HD.out]
  generalize idxF p l 0 = R at *
  clear hC hv
  go_enter Tryz.func64, Tryz.ntmps64
  go_wp2_with fail
  refine H.out.mono ?_
  rintro e w1 ⟨rfl, hb1⟩
  have H1 : Hid (Below w.heap.size w w1) := hb1
  clear hb1
  go_wp2
  go_ret
  exact ⟨rfl, H1.out⟩

end Go.Proofs.YtbghjmkgicdnoaaGreat

/-
  slices.DeleteFunc of rectangles, whatever the function that is handed in.
-/
namespace Go.Proofs.YtbghjmkgicdnoaaGreat
open Go.RowKit

theorem own_rowN {base g cap n size : Nat} {e : TypeId} : ∀ (vs : List Value) (o : Nat) (w : World) (xs : List Value), w.ownsRow base e size (.slice (some ⟨g, 0, none⟩) n cap) n xs → ∃ ys, (w.setCells g o vs).ownsRow base e size (.slice (some ⟨g, 0, none⟩) n cap) n ys ∧ ys.take o = xs.take o
  | [], _, _, xs, h => ⟨xs, h, rfl⟩
  | v :: vs, o, w, xs, h => by
    obtain ⟨ys, h1, h2⟩ := own_rowN vs (o + 1) _ _ (own_set h o v)
    refine ⟨ys, h1, ?_⟩
    have e : ys.take o = (ys.take (o + 1)).take o := by rw [List.take_take]; congr 1; omega
    rw [e, h2, List.take_take, show min o (o + 1) = o by omega, List.take_set_of_le (Nat.le_refl o)]
theorem own_cutN {base g cap n m size : Nat} {e : TypeId} {w : World} {xs : List Value} (h : w.ownsRow base e size (.slice (some ⟨g, 0, none⟩) n cap) n xs) (hm : m ≤ n) : w.ownsRow base e size (.slice (some ⟨g, 0, none⟩) m cap) m (xs.take (m * size)) := by
  obtain ⟨hl, ⟨h, _⟩ | ⟨g', cap', cur, h, hb, hc, h1, h2, h3, h4⟩⟩ := h
  · cases h
  · injection h with e1 _ e3
    injection e1 with e1
    injection e1 with e1 _ _
    subst e1 e3
    have hms : m * size ≤ n * size := Nat.mul_le_mul_right size hm
    refine ⟨by rw [List.length_take]; omega, .inr ⟨g, cap, cur, rfl, hb, hc, by omega, h2, h3, ?_⟩⟩
    rw [← h4, List.take_take]
    congr 1
    omega
theorem ob_row (g : Nat) : ∀ (vs : List Value) (o : Nat) (w : World), w.grownBy (w.setCells g o vs) (some g)
  | [], _, _ => World.grownBy.refl _ _
  | v :: vs, o, w => ob_trans (ob_set w g o v) (ob_row g vs (o + 1) _)
set_option maxRecDepth 20000 in
theorem clear_rc (w : World) (ty : TypeId) (b o n c : Nat) (hn : 0 < n) (hc : ∀ j, j < n * 4 → (w.cell? ⟨b, o + j, none⟩).isSome = true) (hf : ∀ j, j < n * 4 → w.frozen? ⟨b, o + j, none⟩ = false) :
    (Builtin.clear_ #[25] ty #[.slice (some ⟨b, o, none⟩) n c]).run Tryz.prog w = .ok (.tuple #[]) (w.setCells b o (List.replicate (n * 4) (.int .i64 0))) := by
  have hzc : (Builtin.zeroCells (Value.cells (.agg #[.int .i64 0, .int .i64 0, .int .i64 0, .int .i64 0])) n).toList = List.replicate (n * 4) (.int .i64 0) := by
    apply List.ext_getElem
    · simp [Builtin.zeroCells, Value.cells]
    · intro i h1 h2
      simp [Builtin.zeroCells, Value.cells]
      have h3 : i % 4 < 4 := Nat.mod_lt _ (by omega)
      generalize i % 4 = j at h3
      match j, h3 with
      | 0, _ => rfl
      | 1, _ => rfl
      | 2, _ => rfl
      | 3, _ => rfl
  have hv : ∀ w, (zeroValue 44).run Tryz.prog w = .ok (.agg #[.int .i64 0, .int .i64 0, .int .i64 0, .int .i64 0]) w := by
    obtain ⟨i0, hi, hz0, hz1, hz2⟩ := info_parts info_rect
    intro w
    simp [zeroValue, typeInfo, hi, hz0]
  have hst := run_storeCells_cells (P := Tryz.prog) b o (List.replicate (n * 4) (.int .i64 0)) 0 w (by simpa using hc) (by simpa using hf) (by intro v hv'; rw [List.eq_of_mem_replicate hv']; rfl)
  simp only [Nat.add_zero] at hst
  obtain ⟨m, rfl⟩ : ∃ m, n = m + 1 := ⟨n - 1, by omega⟩
  simp [Builtin.clear_, run_underlying Tryz.underlying25, hv, hzc, hst]
/-- The row while it is gone through: ahead what is kept, behind what is to come. -/
def DelR (p : Rc → Bool) (l : List Rc) (i j : Nat) (M : List Rc) : Prop := M.length = l.length ∧ i < j ∧ j ≤ l.length ∧ M.take i = (l.take j).filter (fun x => !p x) ∧ M.drop j = l.drop j
theorem del_at {p : Rc → Bool} {l M : List Rc} {i j : Nat} (h : DelR p l i j M) (hj : j < l.length) (hj' : j < M.length) : M[j] = l[j] := by
  have e := h.2.2.2.2
  rw [List.drop_eq_getElem_cons hj', List.drop_eq_getElem_cons hj] at e
  injection e
theorem del_keep {p : Rc → Bool} {l M : List Rc} {i j : Nat} (h : DelR p l i j M) (hj : j < l.length) (hp : p l[j] = false) : DelR p l (i + 1) (j + 1) (M.set i l[j]) := by
  obtain ⟨h1, h2, h3, h4, h5⟩ := h
  refine ⟨by rw [List.length_set, h1], by omega, by omega, ?_, ?_⟩
  · rw [← List.take_append_getElem hj, List.filter_append, ← h4]
    have hi : i < (M.set i l[j]).length := by rw [List.length_set]; omega
    rw [← List.take_append_getElem hi, List.take_set_of_le (Nat.le_refl i), List.getElem_set_self]
    simp [hp]
  · rw [List.drop_set_of_lt (by omega)]
    have : ∀ X : List Rc, X.drop (j + 1) = (X.drop j).drop 1 := fun X => by rw [List.drop_drop]
    rw [this M, this l, h5]
theorem del_skip {p : Rc → Bool} {l M : List Rc} {i j : Nat} (h : DelR p l i j M) (hj : j < l.length) (hp : p l[j] = true) : DelR p l i (j + 1) M := by
  obtain ⟨h1, h2, h3, h4, h5⟩ := h
  refine ⟨h1, by omega, by omega, ?_, ?_⟩
  · rw [← List.take_append_getElem hj, List.filter_append, ← h4]
    simp [hp]
  · have : ∀ X : List Rc, X.drop (j + 1) = (X.drop j).drop 1 := fun X => by rw [List.drop_drop]
    rw [this M, this l, h5]
theorem del_first {p : Rc → Bool} {l : List Rc} {i : Nat} (hi : i < l.length) (ha : ∀ x ∈ l.take i, p x = false) (hp : p l[i] = true) : DelR p l i (i + 1) l := by
  refine ⟨rfl, by omega, by omega, ?_, rfl⟩
  rw [← List.take_append_getElem hi, List.filter_append]
  have e : (l.take i).filter (fun x => !p x) = l.take i := List.filter_eq_self.2 fun x hx => by rw [ha x hx]; rfl
  rw [e]
  simp [hp]
theorem idxF_cases (p : Rc → Bool) (l : List Rc) : (idxF p l 0 = -1 ∧ ∀ x ∈ l, p x = false) ∨ ∃ i, ∃ h : i < l.length, idxF p l 0 = (i : Int) ∧ (∀ x ∈ l.take i, p x = false) ∧ p l[i] = true := by
  by_cases h : ∃ i, ∃ h : i < l.length, p l[i] = true
  · have key : ∀ n, (∃ i, ∃ h : i < l.length, i ≤ n ∧ p l[i] = true) → ∃ i, ∃ h : i < l.length, (∀ x ∈ l.take i, p x = false) ∧ p l[i] = true := by
      intro n
      induction n with
      | zero =>
        rintro ⟨i, hi, h0, hp⟩
        obtain rfl : i = 0 := by omega
        exact ⟨0, hi, fun x hx => by simp at hx, hp⟩
      | succ n ih =>
        rintro ⟨i, hi, h0, hp⟩
        by_cases hh : ∃ i, ∃ h : i < l.length, i ≤ n ∧ p l[i] = true
        · exact ih hh
        · refine ⟨i, hi, fun x hx => ?_, hp⟩
          obtain ⟨k, hk, e⟩ := List.getElem_of_mem hx
          rw [List.length_take] at hk
          rw [List.getElem_take] at e
          cases e2 : p x
          · rfl
          · exact absurd ⟨k, by omega, by omega, by rw [e]; exact e2⟩ hh
    obtain ⟨i, hi, hp⟩ := h
    obtain ⟨i, hi, ha, hp⟩ := key i ⟨i, hi, Nat.le_refl _, hp⟩
    refine .inr ⟨i, hi, ?_, ha, hp⟩
    have := idxF_yes p l i 0 hi ha hp
    rwa [Nat.zero_add] at this
  · have h2 : ∀ x ∈ l, p x = false := fun x hx => by
      obtain ⟨k, hk, e⟩ := List.getElem_of_mem hx
      cases e2 : p x
      · rfl
      · exact absurd ⟨k, hk, by rw [e]; exact e2⟩ h
    exact .inl ⟨idxF_no p l 0 h2, h2⟩

set_option maxRecDepth 10000 in
set_option maxHeartbeats 4000000 in
theorem delete_fn (F : Nat) (env : Array Value) (p : Rc → Bool) (l : List Rc) (v : Value) (lo : Nat) (w : World) (ho : OwR lo w v l) (eg : ∀ args w, (callFunc F args).run Tryz.prog w = .ok (.enter F args) w)
    (hC : ∀ x ∈ l, ∀ W, w.grownBy W v.ownBlock → Calls Tryz.prog F (#[.agg #[.int .i64 x.x, .int .i64 x.y, .int .i64 x.w, .int .i64 x.h]] ++ env) W fun e w' => e = .returned (.bool (p x)) ∧ Below W.heap.size W w') (hl : l.length < 1000000) :
    Calls Tryz.prog 49 #[v, .func (.func F) #[] env] w fun e w' => ∃ u, e = .returned u ∧ Hid (OwR lo w' u (l.filter fun x => !p x) ∧ w.grownBy w' v.ownBlock ∧ u.ownBlock = v.ownBlock) := by
  have gB : ∀ W, Below w.heap.size w W → w.grownBy W v.ownBlock := fun W h => ⟨h.os, h.tape, h.output, h.size, fun b hb _ => h.block b hb⟩
  have HI : Hid (Calls Tryz.prog 75 #[v, .func (.func F) #[] env] w fun e w' => e = .returned (.int .i64 (idxF p l 0)) ∧ Below w.heap.size w w') := index_fn F env p l v w (lsr_own ho) eg (fun x hx W h => hC x hx W (gB W h)) hl
  have HC : Hid (∀ x ∈ l, ∀ W, w.grownBy W v.ownBlock → Calls Tryz.prog F (#[.agg #[.int .i64 x.x, .int .i64 x.y, .int .i64 x.w, .int .i64 x.h]] ++ env) W fun e w' => e = .returned (.bool (p x)) ∧ Below W.heap.size W w') := hC
  have HGB : Hid (∀ W, Below w.heap.size w W → w.grownBy W v.ownBlock) := gB
  clear hC gB
  rcases idxF_cases p l with ⟨e1, h2⟩ | ⟨i, hi, e1, ha, hp⟩
  · have HF : Hid (l.filter (fun x => !p x) = l) := List.filter_eq_self.2 fun x hx => by rw [h2 x hx]; rfl
    rw [e1] at HI
    have HO : Hid (OwR lo w v l) := ho
    clear e1 h2 ho
    go_enter Tryz.func49, Tryz.ntmps49
    go_wp2_with fail
    refine HI.out.mono ?_
    rintro e w1 ⟨rfl, hb1⟩
    have H1 : Hid (OwR lo w1 v (l.filter fun x => !p x) ∧ w.grownBy w1 v.ownBlock) := by
      rw [HF.out]
      exact ⟨HO.out.below hb1, HGB.out _ hb1⟩
    clear hb1
    go_wp2
    go_ret
    exact ⟨_, rfl, H1.out.1, H1.out.2, rfl⟩
  · obtain ⟨oa, cap, rfl, hc, hg⟩ := row_val ho
    obtain ⟨g, rfl, hg1, hg2⟩ := hg (by omega)
    have hne : ((i : Int) == -1) = false := beq_eq_false_iff_ne.2 (by omega)
    rw [e1] at HI
    obtain ⟨n, hn⟩ : ∃ n, n = l.length := ⟨_, rfl⟩
    have HN : Hid (n = l.length) := hn
    have H0 : Hid (∃ M, DelR p l i (i + 1) M ∧ OwR lo w (.slice (some ⟨g, 0, none⟩) l.length cap) M) := ⟨l, del_first hi ha hp, ho⟩
    have hin : i < n := by omega
    rw [← hn] at HI HC HGB hl hc H0 ⊢
    clear e1 ha hp ho hg hn
    go_enter Tryz.func49, Tryz.ntmps49
    go_wp2_with fail
    refine HI.out.mono ?_
    rintro e w1 ⟨rfl, hb1⟩
    have H1 : Hid (∃ M, DelR p l i (i + 1) M ∧ OwR lo w1 (.slice (some ⟨g, 0, none⟩) n cap) M ∧ w.grownBy w1 (some g)) := by
      obtain ⟨M, a1, a2⟩ := H0.out
      exact ⟨M, a1, a2.below hb1, HGB.out _ hb1⟩
    clear hb1 H0 HGB HI
    go_wp2_with fail
    go_loopw [5, 6] (fun iv jv wr => ∃ a j : Nat, iv = .int .i64 a ∧ jv = .int .i64 j ∧ a < j ∧ j ≤ n ∧ Hid (∃ M, DelR p l a j M ∧ OwR lo wr (.slice (some ⟨g, 0, none⟩) n cap) M ∧ w.grownBy wr (some g))) (fun _ j _ => n - (intOf j).toNat)
    case atStart => exact ⟨i, i + 1, rfl, by go_num, by omega, by omega, H1⟩
    case round =>
      clear H1
      obtain ⟨a, j, rfl, rfl, haj, hj, HK⟩ := hrel
      by_cases hlt : j < n
      · have ij : (j : Int) < n := by omega
        have ia : (a : Int) < n := by omega
        have hjl : j < l.length := by rw [← HN.out]; exact hlt
        obtain ⟨M, hM, hO, hG⟩ := HK.out
        have hMl : M.length = n := by rw [hM.1, HN.out]
        have hrow : wr.ownsRow lo 44 4 (.slice (some ⟨g, 0, none⟩) n cap) n (flat M) := by
          unfold OwR at hO
          rw [hMl] at hO
          exact hO
        have hx : RcAt wr g (j * 4) l[j] := by
          obtain ⟨f0, f1, f2, f3⟩ := flat_at M j (by omega)
          rw [del_at hM hjl (by omega)] at f0 f1 f2 f3
          exact ⟨(own_cell hrow _ (by omega)).trans f0, (own_cell hrow _ (by omega)).trans f1, (own_cell hrow _ (by omega)).trans f2, (own_cell hrow _ (by omega)).trans f3⟩
        have hgw : g < wr.heap.size := (row_lt hrow g rfl).2
        obtain ⟨bx, hbx⟩ : ∃ bx, bx = wr.heap.size := ⟨_, rfl⟩
        have HBX : Hid (∀ W, Below (wr.alloc (.cells #[.int .i64 l[j].x, .int .i64 l[j].y, .int .i64 l[j].w, .int .i64 l[j].h] 44)).heap.size (wr.alloc (.cells #[.int .i64 l[j].x, .int .i64 l[j].y, .int .i64 l[j].w, .int .i64 l[j].h] 44)) W → Below wr.heap.size wr W ∧ Bk W bx #[.int .i64 l[j].x, .int .i64 l[j].y, .int .i64 l[j].w, .int .i64 l[j].h] 44) := fun W h => by
          have h2 : Below wr.heap.size wr (wr.alloc (.cells #[.int .i64 l[j].x, .int .i64 l[j].y, .int .i64 l[j].w, .int .i64 l[j].h] 44)) := (Below.refl _ _).alloc (Nat.le_refl _) _
          refine ⟨h2.trans (h.mono h2.size), ?_⟩
          rw [hbx]
          exact (Bk.new wr _ _).below h
        have HCx : Hid (Calls Tryz.prog F (#[.agg #[.int .i64 l[j].x, .int .i64 l[j].y, .int .i64 l[j].w, .int .i64 l[j].h]] ++ env) (wr.alloc (.cells #[.int .i64 l[j].x, .int .i64 l[j].y, .int .i64 l[j].w, .int .i64 l[j].h] 44)) fun e w' => e = .returned (.bool (p l[j])) ∧ Below (wr.alloc (.cells #[.int .i64 l[j].x, .int .i64 l[j].y, .int .i64 l[j].w, .int .i64 l[j].h] 44)).heap.size (wr.alloc (.cells #[.int .i64 l[j].x, .int .i64 l[j].y, .int .i64 l[j].w, .int .i64 l[j].h] 44)) w') := HC.out _ (List.getElem_mem hjl) _ (ob_trans hG ((World.grownBy_alloc wr _ (some g))))
        have HS : Hid ((p l[j] = false → DelR p l (a + 1) (j + 1) (M.set a l[j])) ∧ (p l[j] = true → DelR p l a (j + 1) M)) := ⟨fun h => del_keep hM hjl h, fun h => del_skip hM hjl h⟩
        have HOo : Hid (wr.ownsRow lo 44 4 (.slice (some ⟨g, 0, none⟩) n cap) n (flat M) ∧ w.grownBy wr (some g) ∧ M.length = n ∧ bx = wr.heap.size) := ⟨hrow, hG, hMl, hbx⟩
        clear HK hM hO hG hrow hMl
        generalize l[j] = x at *
        obtain ⟨x0, x1, x2, x3⟩ := hx
        generalize p x = pb at *
        have HXB : Hid (bx = wr.heap.size) := hbx
        clear hbx
        go_wp2_with fail
        rw [← HXB.out]
        refine HCx.out.mono ?_
        rintro e w3 ⟨rfl, hb3⟩
        obtain ⟨hb3, hbk⟩ := HBX.out _ hb3
        have H3 : Hid (w3.ownsRow lo 44 4 (.slice (some ⟨g, 0, none⟩) n cap) n (flat M) ∧ w.grownBy w3 (some g) ∧ Bk w3 bx #[.int .i64 x.x, .int .i64 x.y, .int .i64 x.w, .int .i64 x.h] 44) := ⟨row_below HOo.out.1 hb3, ob_trans HOo.out.2.1 ⟨hb3.os, hb3.tape, hb3.output, hb3.size, fun b hb _ => hb3.block b hb⟩, hbk⟩
        clear hb3 hbk HBX HCx x0 x1 x2 x3
        cases pb
        · have HS1 : Hid (DelR p l (a + 1) (j + 1) (M.set a x)) := HS.out.1 (by first | rfl | trivial)
          obtain ⟨c0, c1, c2, c3⟩ := H3.out.2.2.at4
          have hfl : (flat M).length = n * 4 := by rw [flat_len, HOo.out.2.2.1]
          have cc4 : ∀ j, j < 4 → ∃ z, w3.cell? ⟨g, a * 4 + j, none⟩ = some z := fun j hj => ⟨(flat M)[a * 4 + j]'(by omega), (own_cell H3.out.1 (a * 4 + j) (by omega)).trans (List.getElem?_eq_getElem _)⟩
          obtain ⟨z0, y0⟩ := cc4 0 (by decide)
          obtain ⟨z1, y1⟩ := cc4 1 (by decide)
          obtain ⟨z2, y2⟩ := cc4 2 (by decide)
          obtain ⟨z3, y3⟩ := cc4 3 (by decide)
          rw [Nat.add_zero] at y0
          have f0 := own_frozen H3.out.1 (a * 4)
          have f1 := own_frozen H3.out.1 (a * 4 + 1)
          have f2 := own_frozen H3.out.1 (a * 4 + 2)
          have f3 := own_frozen H3.out.1 (a * 4 + 3)
          have HRel : Hid (∃ M', DelR p l (a + 1) (j + 1) M' ∧ OwR lo ((((w3.setCell ⟨g, a * 4, none⟩ (.int .i64 x.x)).setCell ⟨g, a * 4 + 1, none⟩ (.int .i64 x.y)).setCell ⟨g, a * 4 + 2, none⟩ (.int .i64 x.w)).setCell ⟨g, a * 4 + 3, none⟩ (.int .i64 x.h)) (.slice (some ⟨g, 0, none⟩) n cap) M' ∧ w.grownBy ((((w3.setCell ⟨g, a * 4, none⟩ (.int .i64 x.x)).setCell ⟨g, a * 4 + 1, none⟩ (.int .i64 x.y)).setCell ⟨g, a * 4 + 2, none⟩ (.int .i64 x.w)).setCell ⟨g, a * 4 + 3, none⟩ (.int .i64 x.h)) (some g)) := by
            refine ⟨M.set a x, HS1.out, ?_, ob_trans H3.out.2.1 (ob_set4 _ _ _ _ _ _ _)⟩
            have h := own_set (own_set (own_set (own_set H3.out.1 (a * 4) (.int .i64 x.x)) (a * 4 + 1) (.int .i64 x.y)) (a * 4 + 2) (.int .i64 x.w)) (a * 4 + 3) (.int .i64 x.h)
            rw [flat_put M a (by rw [HOo.out.2.2.1]; omega) x] at h
            unfold OwR
            rw [List.length_set, HOo.out.2.2.1]
            exact h
          clear HS HS1 H3 HOo hfl cc4
          go_wp2
          exact ⟨⟨a + 1, j + 1, by go_num, by go_num, by omega, by omega, HRel⟩, by simp [intOf]; omega⟩
        · have HRel : Hid (∃ M', DelR p l a (j + 1) M' ∧ OwR lo w3 (.slice (some ⟨g, 0, none⟩) n cap) M' ∧ w.grownBy w3 (some g)) := by
            refine ⟨M, HS.out.2 (by first | rfl | trivial), ?_, H3.out.2.1⟩
            unfold OwR
            rw [HOo.out.2.2.1]
            exact H3.out.1
          clear HS H3 HOo
          go_wp2
          exact ⟨⟨a, j + 1, rfl, by go_num, by omega, by omega, HRel⟩, by simp [intOf]; omega⟩
      · obtain rfl : j = n := by omega
        have ij : ¬ (j : Int) < j := by omega
        have ia : (a : Int) ≤ j := by omega
        have ic : a ≤ cap := by omega
        obtain ⟨M, hM, hO, hG⟩ := HK.out
        have hMl : M.length = j := by rw [hM.1, HN.out]
        have hrow : wr.ownsRow lo 44 4 (.slice (some ⟨g, 0, none⟩) j cap) j (flat M) := by
          unfold OwR at hO
          rw [hMl] at hO
          exact hO
        have hcl : ∀ ty, (Builtin.clear_ #[25] ty #[.slice (some ⟨g, a * 4, none⟩) (j - a) (cap - a)]).run Tryz.prog wr = .ok (.tuple #[]) (wr.setCells g (a * 4) (List.replicate ((j - a) * 4) (.int .i64 0))) := fun ty =>
          clear_rc wr ty g (a * 4) (j - a) (cap - a) (by omega) (fun t ht => by
            have hfl : (flat M).length = j * 4 := by rw [flat_len, hMl]
            rw [own_cell hrow (a * 4 + t) (by omega), List.getElem?_eq_getElem (by omega)]; rfl) (fun t ht => own_frozen hrow (a * 4 + t))
        have HF : Hid (OwR lo (wr.setCells g (a * 4) (List.replicate ((j - a) * 4) (.int .i64 0))) (.slice (some ⟨g, 0, none⟩) a cap) (l.filter fun x => !p x) ∧ w.grownBy (wr.setCells g (a * 4) (List.replicate ((j - a) * 4) (.int .i64 0))) (some g)) := by
          refine ⟨?_, ob_trans hG (ob_row g _ _ _)⟩
          obtain ⟨ys, o1, o2⟩ := own_rowN (List.replicate ((j - a) * 4) (.int .i64 0)) (a * 4) wr _ hrow
          have o3 := own_cutN o1 (m := a) (by omega)
          rw [o2] at o3
          have e1 : (flat M).take (a * 4) = flat (M.take a) := by
            conv => lhs; rw [← List.take_append_drop a M, flat_app]
            exact List.take_left' (by rw [flat_len, List.length_take]; omega)
          have e2 : M.take a = l.filter fun x => !p x := by
            rw [hM.2.2.2.1, HN.out, List.take_length]
          have e3 : (l.filter fun x => !p x).length = a := by rw [← e2, List.length_take]; omega
          unfold OwR
          rw [e3, ← e2, ← e1]
          exact o3
        clear HK hM hO hG hrow hMl
        go_wp2
        go_ret
        exact ⟨_, rfl, HF.out.1, HF.out.2, rfl⟩

end Go.Proofs.YtbghjmkgicdnoaaGreat

/-
  Contracts of package list: what a stroke draws.
-/
namespace Go.Proofs.YtbghjmkgicdnoaaGreat
open Go.RowKit

theorem bk_alloc2 {W : World} {b : Nat} {vs : Array Value} {t : TypeId} (h : Bk W b vs t) (o : Obj) : Bk (W.alloc o) b vs t := h.below ((Below.refl _ _).alloc (Nat.le_refl _) o)
theorem two_new (W : World) (n : Nat) (hn : W.heap.size = n) (a b : Array Value) (t u : TypeId) : Below W.heap.size W ((W.alloc (.cells a t)).alloc (.cells b u)).drew ∧ Bk ((W.alloc (.cells a t)).alloc (.cells b u)).drew n a t ∧ Bk ((W.alloc (.cells a t)).alloc (.cells b u)).drew (n + 1) b u := by
  subst hn
  have q := Bk.new (W.alloc (.cells a t)) b u
  rw [World.size_alloc] at q
  exact ⟨(((Below.refl _ W).alloc (Nat.le_refl _) _).alloc (by simp) _).drew, bk_alloc2 (Bk.new W a t) _, q⟩

set_option maxRecDepth 20000 in
set_option maxHeartbeats 8000000 in
theorem border_any (f r : Rc) (w : World) (hf : zMa f = true) (hr : zMa r = true) :
    Calls Tryz.prog 76 #[.agg #[.int .i64 f.x, .int .i64 f.y, .int .i64 f.w, .int .i64 f.h], .agg #[.int .i64 r.x, .int .i64 r.y, .int .i64 r.w, .int .i64 r.h]] w fun e w' => AnsP w (brdL f r) e w' := by
  obtain ⟨f1, f2, f3, f4, f5, f6, f7, f8⟩ := may_bd hf
  obtain ⟨g1, g2, g3, g4, -⟩ := may_bd hr
  have HME : Hid (∀ (a b c d : Int) W, -100000 ≤ a → a ≤ 100000 → -100000 ≤ b → b ≤ 100000 → Calls Tryz.prog 41 #[.agg #[.int .i64 r.x, .int .i64 r.y, .int .i64 r.w, .int .i64 r.h], .agg #[.int .i64 a, .int .i64 b, .int .i64 c, .int .i64 d]] W fun e w' => e = .returned (.agg #[.int .i64 (zMe r ⟨a, b, c, d⟩).x, .int .i64 (zMe r ⟨a, b, c, d⟩).y, .int .i64 (zMe r ⟨a, b, c, d⟩).w, .int .i64 (zMe r ⟨a, b, c, d⟩).h]) ∧ Below W.heap.size W w') := fun a b c d W h1 h2 h3 h4 => meet_any _ _ _ _ _ _ _ _ W (i64_near ⟨g1, g2⟩) (i64_near ⟨g3, g4⟩) (by unfold I64; omega) (by unfold I64; omega)
  obtain ⟨xr, hxr⟩ : ∃ xr, f.x + f.w - 1 = xr := ⟨_, rfl⟩
  obtain ⟨yb, hyb⟩ : ∃ yb, f.y + f.h - 1 = yb := ⟨_, rfl⟩
  have e : brdL f r = [zMe r ⟨f.x, f.y, f.w, 1⟩, zMe r ⟨f.x, f.y, 1, f.h⟩, zMe r ⟨xr, f.y, 1, f.h⟩, zMe r ⟨f.x, yb, f.w, 1⟩] := by rw [← hxr, ← hyb]; rfl
  rw [e]
  have x1 : -100000 ≤ xr := by omega
  have x2 : xr ≤ 100000 := by omega
  have y1 : -100000 ≤ yb := by omega
  have y2 : yb ≤ 100000 := by omega
  clear e
  clear hf hr g1 g2 g3 g4
  go_enter Tryz.func76, Tryz.ntmps76
  go_upto_region 1 with fail
  go_cut [5, 6] (fun s5 s6 wx => ∃ b5 b6, s5 = .pointer (some ⟨b5, 0, none⟩) ∧ s6 = .pointer (some ⟨b6, 0, none⟩) ∧ Hid (Bk wx w.heap.size #[.int .i64 f.x, .int .i64 f.y, .int .i64 f.w, .int .i64 f.h] 44 ∧ Bk wx (w.heap.size + 1) #[.int .i64 r.x, .int .i64 r.y, .int .i64 r.w, .int .i64 r.h] 44 ∧ Bk wx b5 #[.int .i64 f.w, .int .i64 1] 42 ∧ Bk wx b6 #[.int .i64 1, .int .i64 f.h] 42 ∧ Below w.heap.size w wx))
  case first =>
    have K0 := Bk.new w #[.int .i64 f.x, .int .i64 f.y, .int .i64 f.w, .int .i64 f.h] 44
    have K1 := Bk.new (w.alloc (.cells #[.int .i64 f.x, .int .i64 f.y, .int .i64 f.w, .int .i64 f.h] 44)) #[.int .i64 r.x, .int .i64 r.y, .int .i64 r.w, .int .i64 r.h] 44
    have L1 : Below w.heap.size w ((w.alloc (.cells #[.int .i64 f.x, .int .i64 f.y, .int .i64 f.w, .int .i64 f.h] 44)).alloc (.cells #[.int .i64 r.x, .int .i64 r.y, .int .i64 r.w, .int .i64 r.h] 44)) := ((Below.refl _ w).alloc (Nat.le_refl _) _).alloc (by simp) _
    rw [World.size_alloc] at K1
    have HK : Hid (∀ W, Below ((w.alloc (.cells #[.int .i64 f.x, .int .i64 f.y, .int .i64 f.w, .int .i64 f.h] 44)).alloc (.cells #[.int .i64 r.x, .int .i64 r.y, .int .i64 r.w, .int .i64 r.h] 44)).heap.size ((w.alloc (.cells #[.int .i64 f.x, .int .i64 f.y, .int .i64 f.w, .int .i64 f.h] 44)).alloc (.cells #[.int .i64 r.x, .int .i64 r.y, .int .i64 r.w, .int .i64 r.h] 44)) W → Bk W w.heap.size #[.int .i64 f.x, .int .i64 f.y, .int .i64 f.w, .int .i64 f.h] 44 ∧ Bk W (w.heap.size + 1) #[.int .i64 r.x, .int .i64 r.y, .int .i64 r.w, .int .i64 r.h] 44 ∧ Below w.heap.size w W) := fun W h => ⟨(bk_alloc2 K0 _).below h, K1.below h, L1.trans (h.mono L1.size)⟩
    have HS : Hid (∀ (W : World) (a b : Array Value) (t u : TypeId), W.heap.size = w.heap.size + 1 + 1 → Below W.heap.size W ((W.alloc (.cells a t)).alloc (.cells b u)).drew ∧ Bk ((W.alloc (.cells a t)).alloc (.cells b u)).drew (w.heap.size + 1 + 1) a t ∧ Bk ((W.alloc (.cells a t)).alloc (.cells b u)).drew (w.heap.size + 1 + 1 + 1) b u) := fun W a b t u h => two_new W _ h a b t u
    clear K0 K1 L1
    go_region
    all_goals
      go_wp2_with fail
      go_meet
      refine ⟨_, _, rfl, rfl, ?_⟩
      obtain ⟨t1, t2, t3⟩ := HK.out _ (HS.out _ _ _ _ _ (by simp)).1
      refine ⟨t1, t2, ?_, ?_, t3⟩
      all_goals
        first
          | exact (HS.out _ _ _ _ _ (by simp)).2.1
          | exact (HS.out _ _ _ _ _ (by simp)).2.2
  case rest =>
    obtain ⟨b5, b6, rfl, rfl, H1⟩ := hcut
    generalize wc = w1 at *
    obtain ⟨c0, c1, c2, c3⟩ := H1.out.1.at4
    obtain ⟨b0, hb0⟩ : ∃ b0, b0 = w.heap.size := ⟨_, rfl⟩
    obtain ⟨b1, hb1⟩ : ∃ b1, b1 = w.heap.size + 1 := ⟨_, rfl⟩
    have HBE : Hid (b0 = w.heap.size ∧ b1 = w.heap.size + 1) := ⟨hb0, hb1⟩
    have l0 := H1.out.1.lt
    rw [← hb0] at c0 c1 c2 c3 l0
    rw [← hb1, ← hb0]
    have H2 : Hid (Bk w1 b0 #[.int .i64 f.x, .int .i64 f.y, .int .i64 f.w, .int .i64 f.h] 44 ∧ Bk w1 b1 #[.int .i64 r.x, .int .i64 r.y, .int .i64 r.w, .int .i64 r.h] 44 ∧ Bk w1 b5 #[.int .i64 f.w, .int .i64 1] 42 ∧ Bk w1 b6 #[.int .i64 1, .int .i64 f.h] 42 ∧ Below w.heap.size w w1) := by rw [hb0, hb1]; exact H1
    clear hb0 hb1 H1
    have HS : Hid (∀ (a b : Array Value) (t u : TypeId), Below w1.heap.size w1 ((w1.alloc (.cells a t)).alloc (.cells b u)) ∧ Bk ((w1.alloc (.cells a t)).alloc (.cells b u)) w1.heap.size a t ∧ Bk ((w1.alloc (.cells a t)).alloc (.cells b u)) (w1.heap.size + 1) b u) := fun a b t u => by
      have q := Bk.new (w1.alloc (.cells a t)) b u
      rw [World.size_alloc] at q
      exact ⟨(((Below.refl _ w1).alloc (Nat.le_refl _) _).alloc (by simp) _), bk_alloc2 (Bk.new w1 a t) _, q⟩
    go_upto_region 4 with fail
    have H3 := HS.out #[.int .i64 xr, .int .i64 f.y] #[.int .i64 f.x, .int .i64 yb] 40 40
    have H4 : Hid (Bk ((w1.alloc (.cells #[.int .i64 xr, .int .i64 f.y] 40)).alloc (.cells #[.int .i64 f.x, .int .i64 yb] 40)) w1.heap.size #[.int .i64 xr, .int .i64 f.y] 40 ∧ Bk ((w1.alloc (.cells #[.int .i64 xr, .int .i64 f.y] 40)).alloc (.cells #[.int .i64 f.x, .int .i64 yb] 40)) (w1.heap.size + 1) #[.int .i64 f.x, .int .i64 yb] 40 ∧ Bk ((w1.alloc (.cells #[.int .i64 xr, .int .i64 f.y] 40)).alloc (.cells #[.int .i64 f.x, .int .i64 yb] 40)) b0 #[.int .i64 f.x, .int .i64 f.y, .int .i64 f.w, .int .i64 f.h] 44 ∧ Bk ((w1.alloc (.cells #[.int .i64 xr, .int .i64 f.y] 40)).alloc (.cells #[.int .i64 f.x, .int .i64 yb] 40)) b1 #[.int .i64 r.x, .int .i64 r.y, .int .i64 r.w, .int .i64 r.h] 44 ∧ Bk ((w1.alloc (.cells #[.int .i64 xr, .int .i64 f.y] 40)).alloc (.cells #[.int .i64 f.x, .int .i64 yb] 40)) b5 #[.int .i64 f.w, .int .i64 1] 42 ∧ Bk ((w1.alloc (.cells #[.int .i64 xr, .int .i64 f.y] 40)).alloc (.cells #[.int .i64 f.x, .int .i64 yb] 40)) b6 #[.int .i64 1, .int .i64 f.h] 42 ∧ Below w.heap.size w ((w1.alloc (.cells #[.int .i64 xr, .int .i64 f.y] 40)).alloc (.cells #[.int .i64 f.x, .int .i64 yb] 40))) := by
      obtain ⟨t1, t2, t3, t4, t5⟩ := H2.out
      exact ⟨H3.2.1, H3.2.2, t1.below H3.1, t2.below H3.1, t3.below H3.1, t4.below H3.1, t5.trans (H3.1.mono t5.size)⟩
    obtain ⟨b7, hb7⟩ : ∃ b7, b7 = w1.heap.size := ⟨_, rfl⟩
    obtain ⟨b8, hb8⟩ : ∃ b8, b8 = w1.heap.size + 1 := ⟨_, rfl⟩
    rw [← hb8, ← hb7] at H4
    rw [← hb8, ← hb7]
    generalize (w1.alloc (.cells #[.int .i64 xr, .int .i64 f.y] 40)).alloc (.cells #[.int .i64 f.x, .int .i64 yb] 40) = w2 at *
    clear H2 H3 HS hb7 hb8 c0 c1 c2 c3 l0 HBE
    clear hxr hyb
    refine R4.wp_region_lit 22 1 1 (fun _ b => .slice (some ⟨b, 0, none⟩) 4 4) (fun _ => .cells #[.int .i64 (zMe r ⟨f.x, f.y, f.w, 1⟩).x, .int .i64 (zMe r ⟨f.x, f.y, f.w, 1⟩).y, .int .i64 (zMe r ⟨f.x, f.y, f.w, 1⟩).w, .int .i64 (zMe r ⟨f.x, f.y, f.w, 1⟩).h, .int .i64 (zMe r ⟨f.x, f.y, 1, f.h⟩).x, .int .i64 (zMe r ⟨f.x, f.y, 1, f.h⟩).y, .int .i64 (zMe r ⟨f.x, f.y, 1, f.h⟩).w, .int .i64 (zMe r ⟨f.x, f.y, 1, f.h⟩).h, .int .i64 (zMe r ⟨xr, f.y, 1, f.h⟩).x, .int .i64 (zMe r ⟨xr, f.y, 1, f.h⟩).y, .int .i64 (zMe r ⟨xr, f.y, 1, f.h⟩).w, .int .i64 (zMe r ⟨xr, f.y, 1, f.h⟩).h, .int .i64 (zMe r ⟨f.x, yb, f.w, 1⟩).x, .int .i64 (zMe r ⟨f.x, yb, f.w, 1⟩).y, .int .i64 (zMe r ⟨f.x, yb, f.w, 1⟩).w, .int .i64 (zMe r ⟨f.x, yb, f.w, 1⟩).h] 44) [63] (by kernel_rfl) (by decide +kernel) rfl ?_ rfl ?_
    · intro k hk
      have hc : k = 0 := by omega
      subst hc; rfl
    apply Exists.intro
    refine ⟨fun bs ne => ?_, ?_, ?_⟩
    · have a7 := fun tt : Gb w2 bs => (H4.out.1.below tt.below).at2.1
      have a7' := fun tt : Gb w2 bs => (H4.out.1.below tt.below).at2.2
      have a8 := fun tt : Gb w2 bs => (H4.out.2.1.below tt.below).at2.1
      have a8' := fun tt : Gb w2 bs => (H4.out.2.1.below tt.below).at2.2
      have a0 := fun tt : Gb w2 bs => (H4.out.2.2.1.below tt.below).at4.1
      have a0' := fun tt : Gb w2 bs => (H4.out.2.2.1.below tt.below).at4.2.1
      have a1 := fun tt : Gb w2 bs => (H4.out.2.2.2.1.below tt.below).at4.1
      have a1' := fun tt : Gb w2 bs => (H4.out.2.2.2.1.below tt.below).at4.2.1
      have a1a := fun tt : Gb w2 bs => (H4.out.2.2.2.1.below tt.below).at4.2.2.1
      have a1b := fun tt : Gb w2 bs => (H4.out.2.2.2.1.below tt.below).at4.2.2.2
      have a5 := fun tt : Gb w2 bs => (H4.out.2.2.2.2.1.below tt.below).at2.1
      have a5' := fun tt : Gb w2 bs => (H4.out.2.2.2.2.1.below tt.below).at2.2
      have a6 := fun tt : Gb w2 bs => (H4.out.2.2.2.2.2.1.below tt.below).at2.1
      have a6' := fun tt : Gb w2 bs => (H4.out.2.2.2.2.2.1.below tt.below).at2.2
      simp only [List.take_succ_cons, List.take_zero]
      repeat (go_big_quiet_step (first
        | (go_at_call 41; exact gb_call (HME.out _ _ _ _ _ (by omega) (by omega) (by omega) (by omega)))))
      exact wpQuiet_nil rfl
    · intro i h1 h2
      have hc : i = 22 := by omega
      subst hc
      exact ⟨_, rfl, rfl, fun _ => by kernel_rfl⟩
    intro bl wx hbl hlo _
    obtain ⟨q1, q2⟩ := hlo 22 (by omega) (by omega)
    simp only [R4.layL]
    generalize bl 22 = g0 at *
    clear hlo
    have HH : Hid (OwR w.heap.size wx (.slice (some ⟨g0, 0, none⟩) 4 4) [zMe r ⟨f.x, f.y, f.w, 1⟩, zMe r ⟨f.x, f.y, 1, f.h⟩, zMe r ⟨xr, f.y, 1, f.h⟩, zMe r ⟨f.x, yb, f.w, 1⟩] ∧ Below w.heap.size w wx) := by
      refine ⟨⟨rfl, .inr ⟨g0, 4, _, rfl, Nat.le_trans H4.out.2.2.2.2.2.2.size q1, q2, Nat.le_refl _, by unfold maxLen; omega, rfl, rfl⟩⟩, H4.out.2.2.2.2.2.2.trans (hbl.mono H4.out.2.2.2.2.2.2.size)⟩
    clear hbl q1 q2
    refine wpAny_one 23 (by kernel_rfl) rfl ?_
    intro K hK
    go_simp
    refine hK _ _ ?_
    clear hK K
    refine wpAny_done (by kernel_rfl) ?_ _
    go_wp2
    go_ret
    exact ⟨_, rfl, HH.out.1, HH.out.2⟩

end Go.Proofs.YtbghjmkgicdnoaaGreat
