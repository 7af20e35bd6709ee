/-
  Texts of this claim, one behind the other: what each is about stands ahead of it.
-/
import Derived.Test.YtbghjmkgicdnoaaK28
import Derived.Lib.SliceRun
import Derived.Laws.IdiomCopy
/-
  slices.IndexFunc, ContainsFunc, DeleteFunc of rectangles, whatever the function that is handed in.
-/
namespace Go.Proofs.Ytbghjmkgicdnoaa
open Go.RowKit

def rcV (r : Rc) : Value := .agg #[.int .i64 r.x, .int .i64 r.y, .int .i64 r.w, .int .i64 r.h]
/-- The first place at which a test holds, or -1. -/
def idxF (p : Rc → Bool) : List Rc → Nat → Int
  | [], _ => -1
  | x :: t, k => if p x = true then (k : Int) else idxF p t (k + 1)
theorem idxF_no (p : Rc → Bool) : ∀ (l : List Rc) (k : Nat), (∀ x ∈ l, p x = false) → idxF p l k = -1
  | [], _, _ => rfl
  | x :: t, k, h => by
    unfold idxF
    rw [h x (by simp), if_neg (by simp)]
    exact idxF_no p t _ fun y hy => h y (by simp [hy])
theorem idxF_yes (p : Rc → Bool) : ∀ (l : List Rc) (i k : Nat) (h : i < l.length), (∀ x ∈ l.take i, p x = false) → p l[i] = true → idxF p l k = ((k + i : Nat) : Int)
  | [], _, _, h, _, _ => absurd h (Nat.not_lt_zero _)
  | x :: t, 0, k, _, _, hp => by
    unfold idxF
    rw [if_pos (show p x = true from hp)]
    rfl
  | x :: t, i + 1, k, h, ha, hp => by
    have h' : i < t.length := by simpa using h
    unfold idxF
    rw [ha x (by simp), if_neg (by simp), idxF_yes p t i (k + 1) h' (fun y hy => ha y (by simp [hy])) hp]
    congr 1
    omega
theorem idxF_any (p : Rc → Bool) (l : List Rc) : decide (0 ≤ idxF p l 0) = l.any p := by
  by_cases h : l.any p = true
  · obtain ⟨x, hx, hp⟩ := List.any_eq_true.1 h
    rw [h]
    have key : ∀ (l : List Rc) (k : Nat), x ∈ l → 0 ≤ idxF p l k := by
      intro l
      induction l with
      | nil => intro k h; cases h
      | cons y t ih =>
        intro k h
        unfold idxF
        by_cases hy : p y = true
        · rw [if_pos hy]; omega
        · rw [if_neg hy]
          rcases List.mem_cons.1 h with rfl | h
          · exact absurd hp hy
          · exact ih _ h
    exact decide_eq_true (key l 0 hx)
  · have h2 : ∀ x ∈ l, p x = false := fun x hx => by
      cases e : p x
      · rfl
      · exact absurd (List.any_eq_true.2 ⟨x, hx, e⟩) h
    rw [idxF_no p l 0 h2]
    cases e : l.any p
    · rfl
    · exact absurd e h

set_option maxRecDepth 10000 in
set_option maxHeartbeats 2000000 in
theorem index_fn (F : Nat) (env : Array Value) (p : Rc → Bool) (l : List Rc) (v : Value) (w : World) (hv : LsR w v l) (eg : ∀ args w, (callFunc F args).run Try.prog w = .ok (.enter F args) w)
    (hC : ∀ x ∈ l, ∀ W, Below w.heap.size w W → Calls Try.prog F (#[.agg #[.int .i64 x.x, .int .i64 x.y, .int .i64 x.w, .int .i64 x.h]] ++ env) W fun e w' => e = .returned (.bool (p x)) ∧ Below W.heap.size W w') (hl : l.length < 1000000) :
    Calls Try.prog 76 #[v, .func (.func F) #[] env] w fun e w' => e = .returned (.int .i64 (idxF p l 0)) ∧ Below w.heap.size w w' := by
  obtain ⟨oa, cap, rfl, hc, hg⟩ := hv
  have HG : Hid (0 < l.length → ∃ g o, oa = some ⟨g, o, none⟩ ∧ g < w.heap.size ∧ ∀ i (h : i < l.length), RcAt w g (o + i * 4) l[i]) := hg
  have HC : Hid (∀ x ∈ l, ∀ W, Below w.heap.size w W → Calls Try.prog F (#[.agg #[.int .i64 x.x, .int .i64 x.y, .int .i64 x.w, .int .i64 x.h]] ++ env) W fun e w' => e = .returned (.bool (p x)) ∧ Below W.heap.size W w') := hC
  have HY : Hid ((∀ i (h : i < l.length), (∀ x ∈ l.take i, p x = false) → p l[i] = true → idxF p l 0 = (i : Int)) ∧ ((∀ x ∈ l, p x = false) → idxF p l 0 = -1)) := by
    refine ⟨fun i h ha hp => ?_, idxF_no p l 0⟩
    have := idxF_yes p l i 0 h ha hp
    rw [Nat.zero_add] at this
    exact this
  obtain ⟨R, hR⟩ : ∃ R, idxF p l 0 = R := ⟨_, rfl⟩
  rw [hR] at HY ⊢
  clear hg hC hR
  go_enter Try.func76, Try.ntmps76
  go_wp2_with fail
  go_loopw [8] (fun i wr => ∃ k : Nat, k ≤ l.length ∧ i = .int .i64 k ∧ Hid ((∀ x ∈ l.take k, p x = false) ∧ Below w.heap.size w wr)) (fun i _ => l.length - (intOf i).toNat)
  case atStart => exact ⟨0, Nat.zero_le _, rfl, fun x hx => by simp at hx, Below.refl _ _⟩
  case round =>
    obtain ⟨k, hk, rfl, HK⟩ := hrel
    by_cases hlt : k < l.length
    · have ik : (k : Int) < l.length := by omega
      obtain ⟨g, o, rfl, hg, hat⟩ := HG.out (by omega)
      obtain ⟨x0, x1, x2, x3⟩ := (hat k hlt).kept (w' := wr) fun j => HK.out.2.cell (p := ⟨g, j, none⟩) hg
      have HX := HC.out l[k] (List.getElem_mem hlt) wr HK.out.2
      have HX2 : Hid (Calls Try.prog F (#[.agg #[.int .i64 l[k].x, .int .i64 l[k].y, .int .i64 l[k].w, .int .i64 l[k].h]] ++ env) wr fun e w' => e = .returned (.bool (p l[k])) ∧ Below wr.heap.size wr w') := HX
      have HE : Hid ((p l[k] = false → ∀ x ∈ l.take (k + 1), p x = false) ∧ (p l[k] = true → R = (k : Int))) := by
        refine ⟨fun h x hx => ?_, fun h => HY.out.1 k hlt HK.out.1 h⟩
        rw [← List.take_append_getElem hlt] at hx
        rcases List.mem_append.1 hx with hx | hx
        · exact HK.out.1 x hx
        · have e : x = l[k] := by simpa using hx
          rw [e]; exact h
      have HB : Hid (Below w.heap.size w wr) := HK.out.2
      clear hat HX HK
      generalize l[k] = x at *
      generalize p x = pb at *
      cases pb
      · have HE2 : Hid (∀ x ∈ l.take (k + 1), p x = false) := HE.out.1 (by first | rfl | trivial)
        clear HE
        go_wp2_with fail
        refine HX2.out.mono ?_
        rintro e w1 ⟨rfl, hb1⟩
        have HRel : Hid ((∀ x ∈ l.take (k + 1), p x = false) ∧ Below w.heap.size w w1) := ⟨HE2.out, HB.out.trans (hb1.mono HB.out.size)⟩
        clear hb1
        go_wp2
        exact ⟨⟨k + 1, by omega, by go_num, HRel⟩, by simp [intOf]; omega⟩
      · have HE2 : Hid (R = (k : Int)) := HE.out.2 (by first | rfl | trivial)
        clear HE
        go_wp2_with fail
        refine HX2.out.mono ?_
        rintro e w1 ⟨rfl, hb1⟩
        have HB2 : Hid (Below w.heap.size w w1) := HB.out.trans (hb1.mono HB.out.size)
        clear hb1
        go_wp2
        go_ret
        exact ⟨by rw [HE2.out]; rfl, HB2.out⟩
    · obtain rfl : k = l.length := by omega
      have HE2 : Hid (R = -1 ∧ Below w.heap.size w wr) := by
        have h := HK.out.1
        rw [List.take_length] at h
        exact ⟨HY.out.2 h, HK.out.2⟩
      clear HK
      go_wp2
      go_ret
      exact ⟨by rw [HE2.out.1]; rfl, HE2.out.2⟩

set_option maxHeartbeats 2000000 in
theorem contains_fn (F : Nat) (env : Array Value) (p : Rc → Bool) (l : List Rc) (v : Value) (w : World) (hv : LsR w v l) (eg : ∀ args w, (callFunc F args).run Try.prog w = .ok (.enter F args) w)
    (hC : ∀ x ∈ l, ∀ W, Below w.heap.size w W → Calls Try.prog F (#[.agg #[.int .i64 x.x, .int .i64 x.y, .int .i64 x.w, .int .i64 x.h]] ++ env) W fun e w' => e = .returned (.bool (p x)) ∧ Below W.heap.size W w') (hl : l.length < 1000000) :
    Calls Try.prog 53 #[v, .func (.func F) #[] env] w fun e w' => e = .returned (.bool (l.any p)) ∧ Below w.heap.size w w' := by
  have H : Hid (Calls Try.prog 76 #[v, .func (.func F) #[] env] w fun e w' => e = .returned (.int .i64 (idxF p l 0)) ∧ Below w.heap.size w w') := index_fn F env p l v w hv eg hC hl
  have HD : Hid (decide (0 ≤ idxF p l 0) = l.any p) := idxF_any p l
  rw [← HD.out]
  generalize idxF p l 0 = R at *
  clear hC hv
  go_enter Try.func53, Try.ntmps53
  go_wp2_with fail
  refine H.out.mono ?_
  rintro e w1 ⟨rfl, hb1⟩
  have H1 : Hid (Below w.heap.size w w1) := hb1
  clear hb1
  go_wp2
  go_ret
  exact ⟨rfl, H1.out⟩

end Go.Proofs.Ytbghjmkgicdnoaa

/-
  slices.DeleteFunc of rectangles, whatever the function that is handed in.
-/
namespace Go.Proofs.Ytbghjmkgicdnoaa
open Go.RowKit

theorem own_rowN {base g cap n size : Nat} {e : TypeId} : ∀ (vs : List Value) (o : Nat) (w : World) (xs : List Value), w.ownsRow base e size (.slice (some ⟨g, 0, none⟩) n cap) n xs → ∃ ys, (w.setCells g o vs).ownsRow base e size (.slice (some ⟨g, 0, none⟩) n cap) n ys ∧ ys.take o = xs.take o
  | [], _, _, xs, h => ⟨xs, h, rfl⟩
  | v :: vs, o, w, xs, h => by
    obtain ⟨ys, h1, h2⟩ := own_rowN vs (o + 1) _ _ (own_set h o v)
    refine ⟨ys, h1, ?_⟩
    have e : ys.take o = (ys.take (o + 1)).take o := by rw [List.take_take]; congr 1; omega
    rw [e, h2, List.take_take, show min o (o + 1) = o by omega, List.take_set_of_le (Nat.le_refl o)]
theorem own_cutN {base g cap n m size : Nat} {e : TypeId} {w : World} {xs : List Value} (h : w.ownsRow base e size (.slice (some ⟨g, 0, none⟩) n cap) n xs) (hm : m ≤ n) : w.ownsRow base e size (.slice (some ⟨g, 0, none⟩) m cap) m (xs.take (m * size)) := by
  obtain ⟨hl, ⟨h, _⟩ | ⟨g', cap', cur, h, hb, hc, h1, h2, h3, h4⟩⟩ := h
  · cases h
  · injection h with e1 _ e3
    injection e1 with e1
    injection e1 with e1 _ _
    subst e1 e3
    have hms : m * size ≤ n * size := Nat.mul_le_mul_right size hm
    refine ⟨by rw [List.length_take]; omega, .inr ⟨g, cap, cur, rfl, hb, hc, by omega, h2, h3, ?_⟩⟩
    rw [← h4, List.take_take]
    congr 1
    omega
theorem ob_row (g : Nat) : ∀ (vs : List Value) (o : Nat) (w : World), w.grownBy (w.setCells g o vs) (some g)
  | [], _, _ => World.grownBy.refl _ _
  | v :: vs, o, w => ob_trans (ob_set w g o v) (ob_row g vs (o + 1) _)
set_option maxRecDepth 20000 in
theorem clear_rc (w : World) (ty : TypeId) (b o n c : Nat) (hn : 0 < n) (hc : ∀ j, j < n * 4 → (w.cell? ⟨b, o + j, none⟩).isSome = true) (hf : ∀ j, j < n * 4 → w.frozen? ⟨b, o + j, none⟩ = false) :
    (Builtin.clear_ #[39] ty #[.slice (some ⟨b, o, none⟩) n c]).run Try.prog w = .ok (.tuple #[]) (w.setCells b o (List.replicate (n * 4) (.int .i64 0))) := by
  have hzc : (Builtin.zeroCells (Value.cells (.agg #[.int .i64 0, .int .i64 0, .int .i64 0, .int .i64 0])) n).toList = List.replicate (n * 4) (.int .i64 0) := by
    apply List.ext_getElem
    · simp [Builtin.zeroCells, Value.cells]
    · intro i h1 h2
      simp [Builtin.zeroCells, Value.cells]
      have h3 : i % 4 < 4 := Nat.mod_lt _ (by omega)
      generalize i % 4 = j at h3
      match j, h3 with
      | 0, _ => rfl
      | 1, _ => rfl
      | 2, _ => rfl
      | 3, _ => rfl
  have hv : ∀ w, (zeroValue 27).run Try.prog w = .ok (.agg #[.int .i64 0, .int .i64 0, .int .i64 0, .int .i64 0]) w := by
    obtain ⟨i0, hi, hz0, hz1, hz2⟩ := info_parts info_rect
    intro w
    simp [zeroValue, typeInfo, hi, hz0]
  have hst := run_storeCells_cells (P := Try.prog) b o (List.replicate (n * 4) (.int .i64 0)) 0 w (by simpa using hc) (by simpa using hf) (by intro v hv'; rw [List.eq_of_mem_replicate hv']; rfl)
  simp only [Nat.add_zero] at hst
  obtain ⟨m, rfl⟩ : ∃ m, n = m + 1 := ⟨n - 1, by omega⟩
  simp [Builtin.clear_, run_underlying Try.underlying39, hv, hzc, hst]
/-- The row while it is gone through: ahead what is kept, behind what is to come. -/
def DelR (p : Rc → Bool) (l : List Rc) (i j : Nat) (M : List Rc) : Prop := M.length = l.length ∧ i < j ∧ j ≤ l.length ∧ M.take i = (l.take j).filter (fun x => !p x) ∧ M.drop j = l.drop j
theorem del_at {p : Rc → Bool} {l M : List Rc} {i j : Nat} (h : DelR p l i j M) (hj : j < l.length) (hj' : j < M.length) : M[j] = l[j] := by
  have e := h.2.2.2.2
  rw [List.drop_eq_getElem_cons hj', List.drop_eq_getElem_cons hj] at e
  injection e
theorem del_keep {p : Rc → Bool} {l M : List Rc} {i j : Nat} (h : DelR p l i j M) (hj : j < l.length) (hp : p l[j] = false) : DelR p l (i + 1) (j + 1) (M.set i l[j]) := by
  obtain ⟨h1, h2, h3, h4, h5⟩ := h
  refine ⟨by rw [List.length_set, h1], by omega, by omega, ?_, ?_⟩
  · rw [← List.take_append_getElem hj, List.filter_append, ← h4]
    have hi : i < (M.set i l[j]).length := by rw [List.length_set]; omega
    rw [← List.take_append_getElem hi, List.take_set_of_le (Nat.le_refl i), List.getElem_set_self]
    simp [hp]
  · rw [List.drop_set_of_lt (by omega)]
    have : ∀ X : List Rc, X.drop (j + 1) = (X.drop j).drop 1 := fun X => by rw [List.drop_drop]
    rw [this M, this l, h5]
theorem del_skip {p : Rc → Bool} {l M : List Rc} {i j : Nat} (h : DelR p l i j M) (hj : j < l.length) (hp : p l[j] = true) : DelR p l i (j + 1) M := by
  obtain ⟨h1, h2, h3, h4, h5⟩ := h
  refine ⟨h1, by omega, by omega, ?_, ?_⟩
  · rw [← List.take_append_getElem hj, List.filter_append, ← h4]
    simp [hp]
  · have : ∀ X : List Rc, X.drop (j + 1) = (X.drop j).drop 1 := fun X => by rw [List.drop_drop]
    rw [this M, this l, h5]
theorem del_first {p : Rc → Bool} {l : List Rc} {i : Nat} (hi : i < l.length) (ha : ∀ x ∈ l.take i, p x = false) (hp : p l[i] = true) : DelR p l i (i + 1) l := by
  refine ⟨rfl, by omega, by omega, ?_, rfl⟩
  rw [← List.take_append_getElem hi, List.filter_append]
  have e : (l.take i).filter (fun x => !p x) = l.take i := List.filter_eq_self.2 fun x hx => by rw [ha x hx]; rfl
  rw [e]
  simp [hp]
theorem idxF_cases (p : Rc → Bool) (l : List Rc) : (idxF p l 0 = -1 ∧ ∀ x ∈ l, p x = false) ∨ ∃ i, ∃ h : i < l.length, idxF p l 0 = (i : Int) ∧ (∀ x ∈ l.take i, p x = false) ∧ p l[i] = true := by
  by_cases h : ∃ i, ∃ h : i < l.length, p l[i] = true
  · have key : ∀ n, (∃ i, ∃ h : i < l.length, i ≤ n ∧ p l[i] = true) → ∃ i, ∃ h : i < l.length, (∀ x ∈ l.take i, p x = false) ∧ p l[i] = true := by
      intro n
      induction n with
      | zero =>
        rintro ⟨i, hi, h0, hp⟩
        obtain rfl : i = 0 := by omega
        exact ⟨0, hi, fun x hx => by simp at hx, hp⟩
      | succ n ih =>
        rintro ⟨i, hi, h0, hp⟩
        by_cases hh : ∃ i, ∃ h : i < l.length, i ≤ n ∧ p l[i] = true
        · exact ih hh
        · refine ⟨i, hi, fun x hx => ?_, hp⟩
          obtain ⟨k, hk, e⟩ := List.getElem_of_mem hx
          rw [List.length_take] at hk
          rw [List.getElem_take] at e
          cases e2 : p x
          · rfl
          · exact absurd ⟨k, by omega, by omega, by rw [e]; exact e2⟩ hh
    obtain ⟨i, hi, hp⟩ := h
    obtain ⟨i, hi, ha, hp⟩ := key i ⟨i, hi, Nat.le_refl _, hp⟩
    refine .inr ⟨i, hi, ?_, ha, hp⟩
    have := idxF_yes p l i 0 hi ha hp
    rwa [Nat.zero_add] at this
  · have h2 : ∀ x ∈ l, p x = false := fun x hx => by
      obtain ⟨k, hk, e⟩ := List.getElem_of_mem hx
      cases e2 : p x
      · rfl
      · exact absurd ⟨k, hk, by rw [e]; exact e2⟩ h
    exact .inl ⟨idxF_no p l 0 h2, h2⟩

set_option maxRecDepth 10000 in
set_option maxHeartbeats 4000000 in
theorem delete_fn (F : Nat) (env : Array Value) (p : Rc → Bool) (l : List Rc) (v : Value) (lo : Nat) (w : World) (ho : OwR lo w v l) (eg : ∀ args w, (callFunc F args).run Try.prog w = .ok (.enter F args) w)
    (hC : ∀ x ∈ l, ∀ W, w.grownBy W v.ownBlock → Calls Try.prog F (#[.agg #[.int .i64 x.x, .int .i64 x.y, .int .i64 x.w, .int .i64 x.h]] ++ env) W fun e w' => e = .returned (.bool (p x)) ∧ Below W.heap.size W w') (hl : l.length < 1000000) :
    Calls Try.prog 62 #[v, .func (.func F) #[] env] w fun e w' => ∃ u, e = .returned u ∧ Hid (OwR lo w' u (l.filter fun x => !p x) ∧ w.grownBy w' v.ownBlock ∧ u.ownBlock = v.ownBlock) := by
  have gB : ∀ W, Below w.heap.size w W → w.grownBy W v.ownBlock := fun W h => ⟨h.os, h.tape, h.output, h.size, fun b hb _ => h.block b hb⟩
  have HI : Hid (Calls Try.prog 76 #[v, .func (.func F) #[] env] w fun e w' => e = .returned (.int .i64 (idxF p l 0)) ∧ Below w.heap.size w w') := index_fn F env p l v w (lsr_own ho) eg (fun x hx W h => hC x hx W (gB W h)) hl
  have HC : Hid (∀ x ∈ l, ∀ W, w.grownBy W v.ownBlock → Calls Try.prog F (#[.agg #[.int .i64 x.x, .int .i64 x.y, .int .i64 x.w, .int .i64 x.h]] ++ env) W fun e w' => e = .returned (.bool (p x)) ∧ Below W.heap.size W w') := hC
  have HGB : Hid (∀ W, Below w.heap.size w W → w.grownBy W v.ownBlock) := gB
  clear hC gB
  rcases idxF_cases p l with ⟨e1, h2⟩ | ⟨i, hi, e1, ha, hp⟩
  · have HF : Hid (l.filter (fun x => !p x) = l) := List.filter_eq_self.2 fun x hx => by rw [h2 x hx]; rfl
    rw [e1] at HI
    have HO : Hid (OwR lo w v l) := ho
    clear e1 h2 ho
    go_enter Try.func62, Try.ntmps62
    go_wp2_with fail
    refine HI.out.mono ?_
    rintro e w1 ⟨rfl, hb1⟩
    have H1 : Hid (OwR lo w1 v (l.filter fun x => !p x) ∧ w.grownBy w1 v.ownBlock) := by
      rw [HF.out]
      exact ⟨HO.out.below hb1, HGB.out _ hb1⟩
    clear hb1
    go_wp2
    go_ret
    exact ⟨_, rfl, H1.out.1, H1.out.2, rfl⟩
  · obtain ⟨oa, cap, rfl, hc, hg⟩ := row_val ho
    obtain ⟨g, rfl, hg1, hg2⟩ := hg (by omega)
    have hne : ((i : Int) == -1) = false := beq_eq_false_iff_ne.2 (by omega)
    rw [e1] at HI
    obtain ⟨n, hn⟩ : ∃ n, n = l.length := ⟨_, rfl⟩
    have HN : Hid (n = l.length) := hn
    have H0 : Hid (∃ M, DelR p l i (i + 1) M ∧ OwR lo w (.slice (some ⟨g, 0, none⟩) l.length cap) M) := ⟨l, del_first hi ha hp, ho⟩
    have hin : i < n := by omega
    rw [← hn] at HI HC HGB hl hc H0 ⊢
    clear e1 ha hp ho hg hn
    go_enter Try.func62, Try.ntmps62
    go_wp2_with fail
    refine HI.out.mono ?_
    rintro e w1 ⟨rfl, hb1⟩
    have H1 : Hid (∃ M, DelR p l i (i + 1) M ∧ OwR lo w1 (.slice (some ⟨g, 0, none⟩) n cap) M ∧ w.grownBy w1 (some g)) := by
      obtain ⟨M, a1, a2⟩ := H0.out
      exact ⟨M, a1, a2.below hb1, HGB.out _ hb1⟩
    clear hb1 H0 HGB HI
    go_wp2_with fail
    go_loopw [5, 6] (fun iv jv wr => ∃ a j : Nat, iv = .int .i64 a ∧ jv = .int .i64 j ∧ a < j ∧ j ≤ n ∧ Hid (∃ M, DelR p l a j M ∧ OwR lo wr (.slice (some ⟨g, 0, none⟩) n cap) M ∧ w.grownBy wr (some g))) (fun _ j _ => n - (intOf j).toNat)
    case atStart => exact ⟨i, i + 1, rfl, by go_num, by omega, by omega, H1⟩
    case round =>
      clear H1
      obtain ⟨a, j, rfl, rfl, haj, hj, HK⟩ := hrel
      by_cases hlt : j < n
      · have ij : (j : Int) < n := by omega
        have ia : (a : Int) < n := by omega
        have hjl : j < l.length := by rw [← HN.out]; exact hlt
        obtain ⟨M, hM, hO, hG⟩ := HK.out
        have hMl : M.length = n := by rw [hM.1, HN.out]
        have hrow : wr.ownsRow lo 27 4 (.slice (some ⟨g, 0, none⟩) n cap) n (flat M) := by
          unfold OwR at hO
          rw [hMl] at hO
          exact hO
        have hx : RcAt wr g (j * 4) l[j] := by
          obtain ⟨f0, f1, f2, f3⟩ := flat_at M j (by omega)
          rw [del_at hM hjl (by omega)] at f0 f1 f2 f3
          exact ⟨(own_cell hrow _ (by omega)).trans f0, (own_cell hrow _ (by omega)).trans f1, (own_cell hrow _ (by omega)).trans f2, (own_cell hrow _ (by omega)).trans f3⟩
        have hgw : g < wr.heap.size := (row_lt hrow g rfl).2
        obtain ⟨bx, hbx⟩ : ∃ bx, bx = wr.heap.size := ⟨_, rfl⟩
        have HBX : Hid (∀ W, Below (wr.alloc (.cells #[.int .i64 l[j].x, .int .i64 l[j].y, .int .i64 l[j].w, .int .i64 l[j].h] 27)).heap.size (wr.alloc (.cells #[.int .i64 l[j].x, .int .i64 l[j].y, .int .i64 l[j].w, .int .i64 l[j].h] 27)) W → Below wr.heap.size wr W ∧ Bk W bx #[.int .i64 l[j].x, .int .i64 l[j].y, .int .i64 l[j].w, .int .i64 l[j].h] 27) := fun W h => by
          have h2 : Below wr.heap.size wr (wr.alloc (.cells #[.int .i64 l[j].x, .int .i64 l[j].y, .int .i64 l[j].w, .int .i64 l[j].h] 27)) := (Below.refl _ _).alloc (Nat.le_refl _) _
          refine ⟨h2.trans (h.mono h2.size), ?_⟩
          rw [hbx]
          exact (Bk.new wr _ _).below h
        have HCx : Hid (Calls Try.prog F (#[.agg #[.int .i64 l[j].x, .int .i64 l[j].y, .int .i64 l[j].w, .int .i64 l[j].h]] ++ env) (wr.alloc (.cells #[.int .i64 l[j].x, .int .i64 l[j].y, .int .i64 l[j].w, .int .i64 l[j].h] 27)) fun e w' => e = .returned (.bool (p l[j])) ∧ Below (wr.alloc (.cells #[.int .i64 l[j].x, .int .i64 l[j].y, .int .i64 l[j].w, .int .i64 l[j].h] 27)).heap.size (wr.alloc (.cells #[.int .i64 l[j].x, .int .i64 l[j].y, .int .i64 l[j].w, .int .i64 l[j].h] 27)) w') := HC.out _ (List.getElem_mem hjl) _ (ob_trans hG ((World.grownBy_alloc wr _ (some g))))
        have HS : Hid ((p l[j] = false → DelR p l (a + 1) (j + 1) (M.set a l[j])) ∧ (p l[j] = true → DelR p l a (j + 1) M)) := ⟨fun h => del_keep hM hjl h, fun h => del_skip hM hjl h⟩
        have HOo : Hid (wr.ownsRow lo 27 4 (.slice (some ⟨g, 0, none⟩) n cap) n (flat M) ∧ w.grownBy wr (some g) ∧ M.length = n ∧ bx = wr.heap.size) := ⟨hrow, hG, hMl, hbx⟩
        clear HK hM hO hG hrow hMl
        generalize l[j] = x at *
        obtain ⟨x0, x1, x2, x3⟩ := hx
        generalize p x = pb at *
        have HXB : Hid (bx = wr.heap.size) := hbx
        clear hbx
        go_wp2_with fail
        rw [← HXB.out]
        refine HCx.out.mono ?_
        rintro e w3 ⟨rfl, hb3⟩
        obtain ⟨hb3, hbk⟩ := HBX.out _ hb3
        have H3 : Hid (w3.ownsRow lo 27 4 (.slice (some ⟨g, 0, none⟩) n cap) n (flat M) ∧ w.grownBy w3 (some g) ∧ Bk w3 bx #[.int .i64 x.x, .int .i64 x.y, .int .i64 x.w, .int .i64 x.h] 27) := ⟨row_below HOo.out.1 hb3, ob_trans HOo.out.2.1 ⟨hb3.os, hb3.tape, hb3.output, hb3.size, fun b hb _ => hb3.block b hb⟩, hbk⟩
        clear hb3 hbk HBX HCx x0 x1 x2 x3
        cases pb
        · have HS1 : Hid (DelR p l (a + 1) (j + 1) (M.set a x)) := HS.out.1 (by first | rfl | trivial)
          obtain ⟨c0, c1, c2, c3⟩ := H3.out.2.2.at4
          have hfl : (flat M).length = n * 4 := by rw [flat_len, HOo.out.2.2.1]
          have cc4 : ∀ j, j < 4 → ∃ z, w3.cell? ⟨g, a * 4 + j, none⟩ = some z := fun j hj => ⟨(flat M)[a * 4 + j]'(by omega), (own_cell H3.out.1 (a * 4 + j) (by omega)).trans (List.getElem?_eq_getElem _)⟩
          obtain ⟨z0, y0⟩ := cc4 0 (by decide)
          obtain ⟨z1, y1⟩ := cc4 1 (by decide)
          obtain ⟨z2, y2⟩ := cc4 2 (by decide)
          obtain ⟨z3, y3⟩ := cc4 3 (by decide)
          rw [Nat.add_zero] at y0
          have f0 := own_frozen H3.out.1 (a * 4)
          have f1 := own_frozen H3.out.1 (a * 4 + 1)
          have f2 := own_frozen H3.out.1 (a * 4 + 2)
          have f3 := own_frozen H3.out.1 (a * 4 + 3)
          have HRel : Hid (∃ M', DelR p l (a + 1) (j + 1) M' ∧ OwR lo ((((w3.setCell ⟨g, a * 4, none⟩ (.int .i64 x.x)).setCell ⟨g, a * 4 + 1, none⟩ (.int .i64 x.y)).setCell ⟨g, a * 4 + 2, none⟩ (.int .i64 x.w)).setCell ⟨g, a * 4 + 3, none⟩ (.int .i64 x.h)) (.slice (some ⟨g, 0, none⟩) n cap) M' ∧ w.grownBy ((((w3.setCell ⟨g, a * 4, none⟩ (.int .i64 x.x)).setCell ⟨g, a * 4 + 1, none⟩ (.int .i64 x.y)).setCell ⟨g, a * 4 + 2, none⟩ (.int .i64 x.w)).setCell ⟨g, a * 4 + 3, none⟩ (.int .i64 x.h)) (some g)) := by
            refine ⟨M.set a x, HS1.out, ?_, ob_trans H3.out.2.1 (ob_set4 _ _ _ _ _ _ _)⟩
            have h := own_set (own_set (own_set (own_set H3.out.1 (a * 4) (.int .i64 x.x)) (a * 4 + 1) (.int .i64 x.y)) (a * 4 + 2) (.int .i64 x.w)) (a * 4 + 3) (.int .i64 x.h)
            rw [flat_put M a (by rw [HOo.out.2.2.1]; omega) x] at h
            unfold OwR
            rw [List.length_set, HOo.out.2.2.1]
            exact h
          clear HS HS1 H3 HOo hfl cc4
          go_wp2
          exact ⟨⟨a + 1, j + 1, by go_num, by go_num, by omega, by omega, HRel⟩, by simp [intOf]; omega⟩
        · have HRel : Hid (∃ M', DelR p l a (j + 1) M' ∧ OwR lo w3 (.slice (some ⟨g, 0, none⟩) n cap) M' ∧ w.grownBy w3 (some g)) := by
            refine ⟨M, HS.out.2 (by first | rfl | trivial), ?_, H3.out.2.1⟩
            unfold OwR
            rw [HOo.out.2.2.1]
            exact H3.out.1
          clear HS H3 HOo
          go_wp2
          exact ⟨⟨a, j + 1, rfl, by go_num, by omega, by omega, HRel⟩, by simp [intOf]; omega⟩
      · obtain rfl : j = n := by omega
        have ij : ¬ (j : Int) < j := by omega
        have ia : (a : Int) ≤ j := by omega
        have ic : a ≤ cap := by omega
        obtain ⟨M, hM, hO, hG⟩ := HK.out
        have hMl : M.length = j := by rw [hM.1, HN.out]
        have hrow : wr.ownsRow lo 27 4 (.slice (some ⟨g, 0, none⟩) j cap) j (flat M) := by
          unfold OwR at hO
          rw [hMl] at hO
          exact hO
        have hcl : ∀ ty, (Builtin.clear_ #[39] ty #[.slice (some ⟨g, a * 4, none⟩) (j - a) (cap - a)]).run Try.prog wr = .ok (.tuple #[]) (wr.setCells g (a * 4) (List.replicate ((j - a) * 4) (.int .i64 0))) := fun ty =>
          clear_rc wr ty g (a * 4) (j - a) (cap - a) (by omega) (fun t ht => by
            have hfl : (flat M).length = j * 4 := by rw [flat_len, hMl]
            rw [own_cell hrow (a * 4 + t) (by omega), List.getElem?_eq_getElem (by omega)]; rfl) (fun t ht => own_frozen hrow (a * 4 + t))
        have HF : Hid (OwR lo (wr.setCells g (a * 4) (List.replicate ((j - a) * 4) (.int .i64 0))) (.slice (some ⟨g, 0, none⟩) a cap) (l.filter fun x => !p x) ∧ w.grownBy (wr.setCells g (a * 4) (List.replicate ((j - a) * 4) (.int .i64 0))) (some g)) := by
          refine ⟨?_, ob_trans hG (ob_row g _ _ _)⟩
          obtain ⟨ys, o1, o2⟩ := own_rowN (List.replicate ((j - a) * 4) (.int .i64 0)) (a * 4) wr _ hrow
          have o3 := own_cutN o1 (m := a) (by omega)
          rw [o2] at o3
          have e1 : (flat M).take (a * 4) = flat (M.take a) := by
            conv => lhs; rw [← List.take_append_drop a M, flat_app]
            exact List.take_left' (by rw [flat_len, List.length_take]; omega)
          have e2 : M.take a = l.filter fun x => !p x := by
            rw [hM.2.2.2.1, HN.out, List.take_length]
          have e3 : (l.filter fun x => !p x).length = a := by rw [← e2, List.length_take]; omega
          unfold OwR
          rw [e3, ← e2, ← e1]
          exact o3
        clear HK hM hO hG hrow hMl
        go_wp2
        go_ret
        exact ⟨_, rfl, HF.out.1, HF.out.2, rfl⟩

end Go.Proofs.Ytbghjmkgicdnoaa

/-
  Contracts of package list: a list without idle pairs, in its own memory.
-/
namespace Go.Proofs.Ytbghjmkgicdnoaa
open Go.RowKit

theorem bz_close {o rest : List St} {s : St} (h : cloB o.reverse s = true) : ∃ c t, o = c :: t ∧ bz St.k o (s :: rest) = bz St.k t rest := by
  unfold cloB at h
  rw [Bool.and_eq_true] at h
  have h5 : s.k = 5 := by simpa using h.1
  cases o with
  | nil => simp at h
  | cons c t =>
    have h4 : c.k = 4 := by simpa using h.2
    exact ⟨c, t, rfl, by rw [bz, if_pos ⟨h5, h4⟩]⟩
theorem bz_keep {o rest : List St} {s : St} (h : cloB o.reverse s = false) : bz St.k o (s :: rest) = bz St.k (s :: o) rest := by
  unfold cloB at h
  cases o with
  | nil => rw [bz]
  | cons c t =>
    rw [bz, if_neg]
    rintro ⟨h5, h4⟩
    simp [h5, h4] at h

/-- What lies there while idle pairs are left out: ahead what is kept, behind what is to come. -/
structure BuW (w : World) (lo g n cap : Nat) (l : List St) (m j : Nat) (M o : List St) (W : World) : Prop where
  fr : W.ownsRow lo 31 15 (.slice (some ⟨g, 0, none⟩) n cap) n (flatZ M)
  fn : M.length = n
  fa : m ≤ j
  fb : j ≤ n
  fk : M.take m = o.reverse
  fe : o.length = m
  fd : M.drop j = l.drop j
  fz : bz St.k o (l.drop j) = busy l
  fw : w.grownBy W (some g)
theorem BuW.below {w : World} {lo g n cap : Nat} {l : List St} {m j : Nat} {M o : List St} {W W' : World} (h : BuW w lo g n cap l m j M o W) (hb : Below W.heap.size W W') : BuW w lo g n cap l m j M o W' :=
  ⟨row_below h.fr hb, h.fn, h.fa, h.fb, h.fk, h.fe, h.fd, h.fz, ob_trans h.fw ⟨hb.os, hb.tape, hb.output, hb.size, fun b hb' _ => hb.block b hb'⟩⟩
theorem BuW.at {w : World} {lo g n cap : Nat} {l : List St} {m j : Nat} {M o : List St} {W : World} (h : BuW w lo g n cap l m j M o W) (i : Nat) (hi : i < M.length) : StAt W g (i * 15) M[i] := by
  rw [stat_iff]
  intro q hq
  have := h.fn
  rw [own_cell h.fr (i * 15 + q) (by omega), flatZ_at M i hi q hq]
theorem drop_step {M l : List St} {j : Nat} (h : M.drop j = l.drop j) : M.drop (j + 1) = l.drop (j + 1) := by
  have : ∀ X : List St, X.drop (j + 1) = (X.drop j).drop 1 := fun X => by rw [List.drop_drop]
  rw [this M, this l, h]
theorem BuW.keep {w : World} {lo g n cap : Nat} {l : List St} {m j : Nat} {M o : List St} {W W' : World} (h : BuW w lo g n cap l m j M o W) (hj : j < n) (hl : j < l.length) (hc : cloB o.reverse l[j] = false) (h1 : W'.ownsRow lo 31 15 (.slice (some ⟨g, 0, none⟩) n cap) n (flatZ (M.set m l[j]))) (h2 : W.grownBy W' (some g)) : BuW w lo g n cap l (m + 1) (j + 1) (M.set m l[j]) (l[j] :: o) W' := by
  have hn := h.fn
  have ha := h.fa
  refine ⟨h1, by rw [List.length_set]; exact hn, by omega, by omega, ?_, by simp [h.fe], ?_, ?_, ob_trans h.fw h2⟩
  · have hm : m < (M.set m l[j]).length := by rw [List.length_set]; omega
    rw [← List.take_append_getElem hm, List.take_set_of_le (Nat.le_refl m), List.getElem_set_self, h.fk, List.reverse_cons]
  · rw [List.drop_set_of_lt (by omega)]
    exact drop_step h.fd
  · have z := h.fz
    rw [List.drop_eq_getElem_cons hl, bz_keep hc] at z
    exact z
theorem BuW.pop {w : World} {lo g n cap : Nat} {l : List St} {m j : Nat} {M o : List St} {W : World} (h : BuW w lo g n cap l m j M o W) (hj : j < n) (hl : j < l.length) (hc : cloB o.reverse l[j] = true) : 0 < m ∧ ∃ t, BuW w lo g n cap l (m - 1) (j + 1) M t W := by
  have hn := h.fn
  have ha := h.fa
  obtain ⟨c, t, e, hz⟩ := bz_close (rest := l.drop (j + 1)) hc
  have hm := h.fe
  rw [e, List.length_cons] at hm
  refine ⟨by omega, t, h.fr, hn, by omega, by omega, ?_, by omega, drop_step h.fd, ?_, h.fw⟩
  · have hk := h.fk
    rw [e, List.reverse_cons] at hk
    have h3 : M.take (m - 1) = (M.take m).take (m - 1) := by rw [List.take_take]; congr 1; omega
    rw [h3, hk]
    exact List.take_left' (by rw [List.length_reverse]; omega)
  · have z := h.fz
    rw [List.drop_eq_getElem_cons hl, hz] at z
    exact z

set_option maxRecDepth 20000 in
set_option maxHeartbeats 8000000 in
theorem lbusy_any (l : List St) (v : Value) (lo : Nat) (w : World) (ho : OwS lo w v l) (hl : l.length ≤ 100000) :
    Calls Try.prog 41 #[v] w fun e w' => ∃ u, e = .returned u ∧ Hid (OwS lo w' u (busy l) ∧ w.grownBy w' v.ownBlock ∧ u.ownBlock = v.ownBlock ∧ ∃ M, OwS lo w' v M) := by
  obtain ⟨oa, cap, rfl, hc, hg⟩ := row_val ho
  by_cases h0 : l.length = 0
  · obtain rfl : l = [] := List.length_eq_zero_iff.1 h0
    have HF : Hid (OwS lo w (.slice oa 0 cap) (busy []) ∧ w.grownBy w (Value.slice oa 0 cap).ownBlock) := ⟨ho, World.grownBy.refl _ _⟩
    clear ho hg h0 hl
    rw [List.length_nil] at hc ⊢
    go_enter Try.func41, Try.ntmps41
    go_wp2
    go_step3
    go_wp2
    go_step3
    go_wp2_with fail
    go_loopw [3, 4] (fun kv jv wr => kv = .slice oa 0 cap ∧ jv = .int .i64 0 ∧ wr = w) (fun _ _ _ => 0)
    case atStart => exact ⟨rfl, rfl, rfl⟩
    case round =>
      obtain ⟨rfl, rfl, rfl⟩ := hrel
      go_wp2
      rw [Exit.noGoto_ret]
      go_ret
      exact ⟨_, rfl, HF.out.1, HF.out.2, rfl, [], HF.out.1⟩
  obtain ⟨g, rfl, hg1, hg2⟩ := hg (by omega)
  obtain ⟨n, hn⟩ : ∃ n, n = l.length := ⟨_, rfl⟩
  have HN : Hid (n = l.length) := hn
  have H0 : Hid (∃ M o, BuW w lo g n cap l 0 0 M o w) := by
    refine ⟨l, [], ?_, hn.symm, Nat.le_refl _, by omega, rfl, rfl, rfl, rfl, World.grownBy.refl _ _⟩
    unfold OwS at ho
    rw [← hn] at ho
    exact ho
  have hn0 : 0 < n := by omega
  rw [← hn] at hc hl ⊢
  clear ho hg h0 hn
  have HCl : Hid (∀ (K : List St) (m : Nat) (s : St) W, m = K.length → (∀ c, K.getLast? = some c → g < W.heap.size ∧ W.cell? ⟨g, (m - 1) * 15, none⟩ = some (.int .u8 c.k)) → m ≤ cap → m ≤ 100000 → Calls Try.prog 69 #[.slice (some ⟨g, 0, none⟩) m cap, (Value.agg #[.int .u8 s.k, .int .i64 s.r.x, .int .i64 s.r.y, .int .i64 s.r.w, .int .i64 s.r.h, .int .u8 s.c.r, .int .u8 s.c.g, .int .u8 s.c.b, .int .u8 s.c.a, .int .u8 s.b.r, .int .u8 s.b.g, .int .u8 s.b.b, .int .u8 s.b.a, .string s.t, .int .i64 s.n])] W fun e w' => e = .returned (.bool (cloB K s)) ∧ Below W.heap.size W w') := fun K m s W h1 h2 h3 h4 => closes_any K _ m cap s W h1 (fun c hc => ⟨g, rfl, h2 c hc⟩) h3 h4
  obtain ⟨i0, hi, hz0, hz1, hz2⟩ := info_parts info_strokeZ
  have HI : Hid (Try.prog.info? 31 = some i0 ∧ i0.size = 15) := ⟨hi, hz1⟩
  clear hi hz0 hz1 hz2
  go_enter Try.func41, Try.ntmps41
  go_wp2_with fail
  refine wp_scope_jumps 0 (fun a' w' => ∃ (m j : Nat) (u5 u6 u7 u8 u9 u10 u11 u12 u13 u14 u15 u16 u17 u18 u19 u20 u21 u22 u23 u24 u25 u26 u27 u28 u29 u30 u31 u32 u33 u34 u35 u36 u37 u38 u39 u40 : Value), a' = ⟨#[.slice (some ⟨g, 0, none⟩) n cap, undef, .slice none 0 0, .slice (some ⟨g, 0, none⟩) m cap, .int .i64 j, u5, u6, u7, u8, u9, u10, u11, u12, u13, u14, u15, u16, u17, u18, u19, u20, u21, u22, u23, u24, u25, u26, u27, u28, u29, u30, u31, u32, u33, u34, u35, u36, u37, u38, u39, u40], []⟩ ∧ j ≤ n ∧ Hid (∃ M o, BuW w lo g n cap l m j M o w')) (fun a' _ => n - (intOf (a'.tmps.getD 4 undef)).toNat) rfl ?_ ?_
  · go_wp2_with fail
    go_step3
    go_wp2_with fail
    go_loopw [3, 4] (fun kv jv wr => ∃ m j : Nat, kv = .slice (some ⟨g, 0, none⟩) m cap ∧ jv = .int .i64 j ∧ m ≤ j ∧ 0 ≤ j ∧ j ≤ n ∧ Hid (∃ M o, BuW w lo g n cap l m j M o wr)) (fun _ j _ => n - (intOf j).toNat)
    case atStart => exact ⟨0, 0, rfl, rfl, Nat.le_refl _, Nat.le_refl _, Nat.zero_le _, H0⟩
    case round =>
      obtain ⟨m, j, rfl, rfl, hmj, hj0j, hjn, HK⟩ := hrel
      by_cases hlt : j < n
      · have ij : (j : Int) < n := by omega
        have hll : j < l.length := by rw [← HN.out]; exact hlt
        obtain ⟨M, o, hB⟩ := HK.out
        have hMj : j < M.length := by rw [hB.fn]; exact hlt
        have eMj : M[j] = l[j] := by
          have e := hB.fd
          rw [List.drop_eq_getElem_cons hMj, List.drop_eq_getElem_cons hll] at e
          injection e
        have hx := hB.at j hMj
        rw [eMj] at hx
        have HCx : Hid (Calls Try.prog 69 #[.slice (some ⟨g, 0, none⟩) m cap, (Value.agg #[.int .u8 l[j].k, .int .i64 l[j].r.x, .int .i64 l[j].r.y, .int .i64 l[j].r.w, .int .i64 l[j].r.h, .int .u8 l[j].c.r, .int .u8 l[j].c.g, .int .u8 l[j].c.b, .int .u8 l[j].c.a, .int .u8 l[j].b.r, .int .u8 l[j].b.g, .int .u8 l[j].b.b, .int .u8 l[j].b.a, .string l[j].t, .int .i64 l[j].n])] wr fun e w' => e = .returned (.bool (cloB o.reverse l[j])) ∧ Below wr.heap.size wr w') := HCl.out o.reverse m l[j] wr (by rw [List.length_reverse]; exact hB.fe.symm) (fun c hc => by
          refine ⟨(row_lt hB.fr g rfl).2, ?_⟩
          have hm0 : 0 < m := by
            have := hB.fe
            cases o with
            | nil => simp at hc
            | cons a b => simp at this; omega
          have hm1 : m - 1 < M.length := by rw [hB.fn]; omega
          have ec : M[m - 1] = c := by
            have e1 : (M.take m)[m - 1]? = some M[m - 1] := by rw [List.getElem?_take_of_lt (by omega), List.getElem?_eq_getElem hm1]
            rw [hB.fk] at e1
            rw [List.getLast?_eq_getElem?, List.length_reverse, hB.fe] at hc
            rw [hc] at e1
            exact (Option.some.inj e1).symm
          have := (hB.at (m - 1) hm1).1
          rw [ec] at this
          exact this) (by omega) (by omega)
        have HB : Hid (BuW w lo g n cap l m j M o wr) := hB
        clear HK hB hMj eMj
        obtain ⟨xc, hxc⟩ : ∃ xc, xc = l[j] := ⟨_, rfl⟩
        have HXC : Hid (xc = l[j]) := hxc
        rw [← hxc] at hx HCx
        obtain ⟨cb, hcb⟩ : ∃ cb, cloB o.reverse xc = cb := ⟨_, rfl⟩
        have HCB : Hid (cloB o.reverse xc = cb) := hcb
        rw [hcb] at HCx
        clear hxc hcb
        obtain ⟨x0, x1, x2, x3, x4, x5, x6, x7, x8, x9, x10, x11, x12, x13, x14⟩ := hx
        go_wp2_with fail
        refine HCx.out.mono ?_
        rintro e w1 ⟨rfl, hb1⟩
        have H1 : Hid (BuW w lo g n cap l m j M o w1 ∧ StAt w1 g (j * 15) xc) := by
          have h := HB.out.below hb1
          refine ⟨h, ?_⟩
          have hMj : j < M.length := by rw [h.fn]; exact hlt
          have eMj : M[j] = l[j] := by
            have e := h.fd
            rw [List.drop_eq_getElem_cons hMj, List.drop_eq_getElem_cons hll] at e
            injection e
          have q := h.at j hMj
          rw [eMj, ← HXC.out] at q
          exact q
        clear hb1 HB HCx x0 x1 x2 x3 x4 x5 x6 x7 x8 x9 x10 x11 x12 x13 x14
        cases cb with
        | false =>
          obtain ⟨x0, x1, x2, x3, x4, x5, x6, x7, x8, x9, x10, x11, x12, x13, x14⟩ := H1.out.2
          have HA : Hid (∀ q, BuW w lo g n cap l m j M o (w1.alloc q)) := fun q => H1.out.1.below ((Below.refl _ _).alloc (Nat.le_refl _) _)
          have HMl : Hid (M.length = n) := H1.out.1.fn
          obtain ⟨hi, hz1⟩ := HI.out
          go_wp2_with (at_builtin; refine app_in rfl _ _ rfl i0 Try.underlying36 hi hz1 lo g m n cap M rfl (HA.out _).fr HMl.out (by omega) _ 1 xc rfl (cell_strokeB _ xc _ _ rfl) ?_)
          intro w4 H4
          have HRel : Hid (∃ M o, BuW w lo g n cap l (m + 1) (j + 1) M o w4) := by
            have e := HXC.out
            refine ⟨_, _, (HA.out _).keep hlt hll (by rw [← e]; exact HCB.out) (by rw [← e]; exact H4.out.1) H4.out.2⟩
          clear H4 HA H1 hi hz1 x0 x1 x2 x3 x4 x5 x6 x7 x8 x9 x10 x11 x12 x13 x14
          go_wp2
          go_roundw
          case rel => exact ⟨m + 1, j + 1, rfl, by go_num, by omega, by omega, by omega, HRel⟩
          case measure => simp [intOf]; omega
        | true =>
          obtain ⟨hm0, t, hP⟩ := H1.out.1.pop hlt hll (by rw [← HXC.out]; exact HCB.out)
          obtain ⟨p, hp⟩ : ∃ p, p = m - 1 := ⟨_, rfl⟩
          have z1 : (m : Int) - 1 = (p : Int) := by omega
          have z2 : (p : Int) ≤ (m : Int) := by omega
          have z3 : p ≤ cap := by omega
          have z5 : p ≤ 100000 := by omega
          have z6 : (p : Int) ≤ (cap : Int) := by omega
          have HRel : Hid (∃ M o, BuW w lo g n cap l p (j + 1) M o w1) := by rw [hp]; exact ⟨_, _, hP⟩
          clear hP H1 HCB HXC hp
          go_wp2_with fail
          go_step3
          exact ⟨rfl, p, j + 1, _, _, _, _, _, _, _, _, _, _, _, _, _, _, _, _, _, _, _, _, _, _, _, _, _, _, _, _, _, _, _, _, _, _, _, _, rfl, by omega, HRel⟩
      · obtain rfl : j = n := by omega
        have ij : ¬ (j : Int) < j := by omega
        have HF : Hid (OwS lo wr (.slice (some ⟨g, 0, none⟩) m cap) (busy l) ∧ w.grownBy wr (some g) ∧ ∃ M, OwS lo wr (.slice (some ⟨g, 0, none⟩) j cap) M) := by
          obtain ⟨M, o, hB⟩ := HK.out
          refine ⟨?_, hB.fw, M, by unfold OwS; rw [hB.fn]; exact hB.fr⟩
          have hz := hB.fz
          rw [List.drop_of_length_le (by rw [HN.out]; exact Nat.le_refl _)] at hz
          have e1 : bz St.k o [] = o.reverse := by cases o <;> rfl
          rw [e1] at hz
          have e2 : busy l = M.take m := by rw [hB.fk, hz]
          have o3 := own_cutN hB.fr (m := m) (by omega)
          have e3 : (flatZ M).take (m * 15) = flatZ (M.take m) := by
            conv => lhs; rw [← List.take_append_drop m M, flatZ_app]
            exact List.take_left' (by rw [flatZ_len, List.length_take, hB.fn]; omega)
          have e4 : (M.take m).length = m := by rw [List.length_take, hB.fn]; omega
          unfold OwS
          rw [e2, e4, ← e3]
          exact o3
        clear HK
        go_wp2
        try simp only [Exit.jump]
        go_ret
        exact ⟨_, rfl, HF.out.1, HF.out.2.1, rfl, HF.out.2.2⟩
  · rintro a' w' ⟨m0, j0, u5, u6, u7, u8, u9, u10, u11, u12, u13, u14, u15, u16, u17, u18, u19, u20, u21, u22, u23, u24, u25, u26, u27, u28, u29, u30, u31, u32, u33, u34, u35, u36, u37, u38, u39, u40, rfl, hj0, HB0⟩
    have hmj0 : m0 ≤ j0 := by obtain ⟨M, o, h⟩ := HB0.out; exact h.fa
    go_wp2_with fail
    go_loopw [3, 4] (fun kv jv wr => ∃ m j : Nat, kv = .slice (some ⟨g, 0, none⟩) m cap ∧ jv = .int .i64 j ∧ m ≤ j ∧ j0 ≤ j ∧ j ≤ n ∧ Hid (∃ M o, BuW w lo g n cap l m j M o wr)) (fun _ j _ => n - (intOf j).toNat)
    case atStart => exact ⟨m0, j0, rfl, rfl, hmj0, Nat.le_refl _, hj0, HB0⟩
    case round =>
      clear HB0
      obtain ⟨m, j, rfl, rfl, hmj, hj0j, hjn, HK⟩ := hrel
      by_cases hlt : j < n
      · have ij : (j : Int) < n := by omega
        have hll : j < l.length := by rw [← HN.out]; exact hlt
        obtain ⟨M, o, hB⟩ := HK.out
        have hMj : j < M.length := by rw [hB.fn]; exact hlt
        have eMj : M[j] = l[j] := by
          have e := hB.fd
          rw [List.drop_eq_getElem_cons hMj, List.drop_eq_getElem_cons hll] at e
          injection e
        have hx := hB.at j hMj
        rw [eMj] at hx
        have HCx : Hid (Calls Try.prog 69 #[.slice (some ⟨g, 0, none⟩) m cap, (Value.agg #[.int .u8 l[j].k, .int .i64 l[j].r.x, .int .i64 l[j].r.y, .int .i64 l[j].r.w, .int .i64 l[j].r.h, .int .u8 l[j].c.r, .int .u8 l[j].c.g, .int .u8 l[j].c.b, .int .u8 l[j].c.a, .int .u8 l[j].b.r, .int .u8 l[j].b.g, .int .u8 l[j].b.b, .int .u8 l[j].b.a, .string l[j].t, .int .i64 l[j].n])] wr fun e w' => e = .returned (.bool (cloB o.reverse l[j])) ∧ Below wr.heap.size wr w') := HCl.out o.reverse m l[j] wr (by rw [List.length_reverse]; exact hB.fe.symm) (fun c hc => by
          refine ⟨(row_lt hB.fr g rfl).2, ?_⟩
          have hm0 : 0 < m := by
            have := hB.fe
            cases o with
            | nil => simp at hc
            | cons a b => simp at this; omega
          have hm1 : m - 1 < M.length := by rw [hB.fn]; omega
          have ec : M[m - 1] = c := by
            have e1 : (M.take m)[m - 1]? = some M[m - 1] := by rw [List.getElem?_take_of_lt (by omega), List.getElem?_eq_getElem hm1]
            rw [hB.fk] at e1
            rw [List.getLast?_eq_getElem?, List.length_reverse, hB.fe] at hc
            rw [hc] at e1
            exact (Option.some.inj e1).symm
          have := (hB.at (m - 1) hm1).1
          rw [ec] at this
          exact this) (by omega) (by omega)
        have HB : Hid (BuW w lo g n cap l m j M o wr) := hB
        clear HK hB hMj eMj
        obtain ⟨xc, hxc⟩ : ∃ xc, xc = l[j] := ⟨_, rfl⟩
        have HXC : Hid (xc = l[j]) := hxc
        rw [← hxc] at hx HCx
        obtain ⟨cb, hcb⟩ : ∃ cb, cloB o.reverse xc = cb := ⟨_, rfl⟩
        have HCB : Hid (cloB o.reverse xc = cb) := hcb
        rw [hcb] at HCx
        clear hxc hcb
        obtain ⟨x0, x1, x2, x3, x4, x5, x6, x7, x8, x9, x10, x11, x12, x13, x14⟩ := hx
        go_wp2_with fail
        refine HCx.out.mono ?_
        rintro e w1 ⟨rfl, hb1⟩
        have H1 : Hid (BuW w lo g n cap l m j M o w1 ∧ StAt w1 g (j * 15) xc) := by
          have h := HB.out.below hb1
          refine ⟨h, ?_⟩
          have hMj : j < M.length := by rw [h.fn]; exact hlt
          have eMj : M[j] = l[j] := by
            have e := h.fd
            rw [List.drop_eq_getElem_cons hMj, List.drop_eq_getElem_cons hll] at e
            injection e
          have q := h.at j hMj
          rw [eMj, ← HXC.out] at q
          exact q
        clear hb1 HB HCx x0 x1 x2 x3 x4 x5 x6 x7 x8 x9 x10 x11 x12 x13 x14
        cases cb with
        | false =>
          obtain ⟨x0, x1, x2, x3, x4, x5, x6, x7, x8, x9, x10, x11, x12, x13, x14⟩ := H1.out.2
          have HA : Hid (∀ q, BuW w lo g n cap l m j M o (w1.alloc q)) := fun q => H1.out.1.below ((Below.refl _ _).alloc (Nat.le_refl _) _)
          have HMl : Hid (M.length = n) := H1.out.1.fn
          obtain ⟨hi, hz1⟩ := HI.out
          go_wp2_with (at_builtin; refine app_in rfl _ _ rfl i0 Try.underlying36 hi hz1 lo g m n cap M rfl (HA.out _).fr HMl.out (by omega) _ 1 xc rfl (cell_strokeB _ xc _ _ rfl) ?_)
          intro w4 H4
          have HRel : Hid (∃ M o, BuW w lo g n cap l (m + 1) (j + 1) M o w4) := by
            have e := HXC.out
            refine ⟨_, _, (HA.out _).keep hlt hll (by rw [← e]; exact HCB.out) (by rw [← e]; exact H4.out.1) H4.out.2⟩
          clear H4 HA H1 hi hz1 x0 x1 x2 x3 x4 x5 x6 x7 x8 x9 x10 x11 x12 x13 x14
          go_wp2
          go_roundw
          case rel => exact ⟨m + 1, j + 1, rfl, by go_num, by omega, by omega, by omega, HRel⟩
          case measure => simp [intOf]; omega
        | true =>
          obtain ⟨hm0, t, hP⟩ := H1.out.1.pop hlt hll (by rw [← HXC.out]; exact HCB.out)
          obtain ⟨p, hp⟩ : ∃ p, p = m - 1 := ⟨_, rfl⟩
          have z1 : (m : Int) - 1 = (p : Int) := by omega
          have z2 : (p : Int) ≤ (m : Int) := by omega
          have z3 : p ≤ cap := by omega
          have z5 : p ≤ 100000 := by omega
          have z6 : (p : Int) ≤ (cap : Int) := by omega
          have HRel : Hid (∃ M o, BuW w lo g n cap l p (j + 1) M o w1) := by rw [hp]; exact ⟨_, _, hP⟩
          clear hP H1 HCB HXC hp
          go_wp2_with fail
          go_step3
          exact ⟨rfl, ⟨p, j + 1, _, _, _, _, _, _, _, _, _, _, _, _, _, _, _, _, _, _, _, _, _, _, _, _, _, _, _, _, _, _, _, _, _, _, _, _, rfl, by omega, HRel⟩, by simp [intOf]; omega⟩
      · obtain rfl : j = n := by omega
        have ij : ¬ (j : Int) < j := by omega
        have HF : Hid (OwS lo wr (.slice (some ⟨g, 0, none⟩) m cap) (busy l) ∧ w.grownBy wr (some g) ∧ ∃ M, OwS lo wr (.slice (some ⟨g, 0, none⟩) j cap) M) := by
          obtain ⟨M, o, hB⟩ := HK.out
          refine ⟨?_, hB.fw, M, by unfold OwS; rw [hB.fn]; exact hB.fr⟩
          have hz := hB.fz
          rw [List.drop_of_length_le (by rw [HN.out]; exact Nat.le_refl _)] at hz
          have e1 : bz St.k o [] = o.reverse := by cases o <;> rfl
          rw [e1] at hz
          have e2 : busy l = M.take m := by rw [hB.fk, hz]
          have o3 := own_cutN hB.fr (m := m) (by omega)
          have e3 : (flatZ M).take (m * 15) = flatZ (M.take m) := by
            conv => lhs; rw [← List.take_append_drop m M, flatZ_app]
            exact List.take_left' (by rw [flatZ_len, List.length_take, hB.fn]; omega)
          have e4 : (M.take m).length = m := by rw [List.length_take, hB.fn]; omega
          unfold OwS
          rw [e2, e4, ← e3]
          exact o3
        clear HK
        go_wp2
        try simp only [Exit.jump]
        go_ret
        exact ⟨_, rfl, HF.out.1, HF.out.2.1, rfl, HF.out.2.2⟩

end Go.Proofs.Ytbghjmkgicdnoaa
