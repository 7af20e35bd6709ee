/-
  Contracts of package region: the rows at which rectangles begin or end, each once, rising.
-/
import Derived.Test.YtagkbpceiedikaaGG
namespace Go.Proofs.Ytagkbpceiedikaa
open Go.RowKit Go.Sort Go.Shelf

theorem inc_snoc : ∀ {l : List Int} {x : Int}, Inc l → (∀ y ∈ l, y < x) → Inc (l ++ [x])
  | [], _, _, _ => ⟨by simp, trivial⟩
  | a :: t, x, h, hx => by
    refine ⟨fun b hb => ?_, inc_snoc h.2 (fun y hy => hx y (by simp [hy]))⟩
    rcases List.mem_append.1 hb with hb | hb
    · exact h.1 b hb
    · rw [List.mem_singleton] at hb
      rw [hb]
      exact hx a (by simp)
theorem compact_inc (d : Array Int) (hd : ∀ i j, i ≤ j → j < d.size → d[i]! ≤ d[j]!) : ∀ m, m ≤ d.size → Inc (Lib.compactUpTo d m) ∧ (∀ x, x ∈ Lib.compactUpTo d m ↔ ∃ j, j < m ∧ x = d[j]!)
  | 0, _ => ⟨by simp [Lib.compactUpTo, Inc], fun x => by simp [Lib.compactUpTo]⟩
  | m + 1, hm => by
    obtain ⟨i1, i2⟩ := compact_inc d hd m (by omega)
    rw [Lib.compactUpTo_succ]
    cases hk : Lib.keeps d m
    · have hk' : ¬ (m = 0 ∨ d[m]! ≠ d[m - 1]!) := by
        unfold Lib.keeps at hk
        exact of_decide_eq_false hk
      have hm0 : m ≠ 0 := fun h => hk' (.inl h)
      have he : d[m]! = d[m - 1]! := Classical.byContradiction fun h => hk' (.inr h)
      simp only [Bool.false_eq_true, if_false, List.append_nil]
      refine ⟨i1, fun x => ?_⟩
      rw [i2]
      constructor
      · rintro ⟨j, h1, h2⟩; exact ⟨j, by omega, h2⟩
      · rintro ⟨j, h1, h2⟩
        by_cases hj : j = m
        · subst hj; exact ⟨j - 1, by omega, by rw [h2, he]⟩
        · exact ⟨j, by omega, h2⟩
    · have hk' : m = 0 ∨ d[m]! ≠ d[m - 1]! := by
        unfold Lib.keeps at hk
        exact of_decide_eq_true hk
      simp only [if_true]
      refine ⟨inc_snoc i1 fun y hy => ?_, fun x => ?_⟩
      · obtain ⟨j, h1, rfl⟩ := (i2 y).1 hy
        have a1 := hd j (m - 1) (by omega) (by omega)
        have a2 := hd (m - 1) m (by omega) (by omega)
        rcases hk' with h | h
        · omega
        · omega
      · rw [List.mem_append, i2, List.mem_singleton]
        constructor
        · rintro (⟨j, h1, h2⟩ | h)
          · exact ⟨j, by omega, h2⟩
          · exact ⟨m, by omega, h⟩
        · rintro ⟨j, h1, h2⟩
          by_cases hj : j = m
          · subst hj; exact .inr h2
          · exact .inl ⟨j, by omega, h2⟩
theorem sorted_list (zs : List Int) : Inc (Lib.compact (zs.mergeSort fun x y => decide (x ≤ y))) ∧ ∀ x, x ∈ Lib.compact (zs.mergeSort fun x y => decide (x ≤ y)) ↔ x ∈ zs := by
  obtain ⟨s, hs⟩ : ∃ s, s = zs.mergeSort fun x y => decide (x ≤ y) := ⟨_, rfl⟩
  have hp : s.Perm zs := by rw [hs]; exact List.mergeSort_perm _ _
  have hw : s.Pairwise (fun x y => decide (x ≤ y) = true) := by
    rw [hs]
    exact List.pairwise_mergeSort (fun a b c h1 h2 => by rw [decide_eq_true_eq] at *; omega) (fun a b => by simp; omega) _
  rw [← hs]
  have hd : ∀ i j, i ≤ j → j < s.toArray.size → s.toArray[i]! ≤ s.toArray[j]! := by
    intro i j hij hj
    have hj' : j < s.length := by simpa using hj
    have e1 : s.toArray[i]! = s[i] := by simp [show i < s.length by omega]
    have e2 : s.toArray[j]! = s[j] := by simp [hj']
    rw [e1, e2]
    rcases Nat.lt_or_eq_of_le hij with h | h
    · have := (List.pairwise_iff_getElem.1 hw) i j (by omega) hj' h
      exact of_decide_eq_true this
    · subst h; exact Int.le_refl _
  obtain ⟨h1, h2⟩ := compact_inc s.toArray hd s.length (by simp)
  refine ⟨h1, fun x => ?_⟩
  show x ∈ Lib.compactUpTo s.toArray s.length ↔ _
  rw [h2, ← hp.mem_iff]
  constructor
  · rintro ⟨j, hj, rfl⟩
    simp [hj]
  · intro hx
    obtain ⟨j, hj, rfl⟩ := List.getElem_of_mem hx
    exact ⟨j, hj, by simp [hj]⟩

/-- The edges of a list's rectangles, as they come. -/
def ysL : List Rc → List Int
  | [] => []
  | r :: t => r.y :: (r.y + r.h) :: ysL t
theorem ysL_app (l m : List Rc) : ysL (l ++ m) = ysL l ++ ysL m := by
  induction l with
  | nil => rfl
  | cons r t ih => simp [ysL, ih]
theorem ysL_len (l : List Rc) : (ysL l).length = l.length * 2 := by
  induction l with
  | nil => rfl
  | cons r t ih => simp [ysL, ih]; omega
theorem ysL_mem (n : Int) : ∀ l : List Rc, n ∈ ysL l ↔ ∃ r ∈ l, n = r.y ∨ n = r.y + r.h
  | [] => by simp [ysL]
  | r :: t => by
    rw [ysL, List.mem_cons, List.mem_cons, ysL_mem n t]
    constructor
    · rintro (h | h | ⟨q, hq, h⟩)
      · exact ⟨r, by simp, .inl h⟩
      · exact ⟨r, by simp, .inr h⟩
      · exact ⟨q, by simp [hq], h⟩
    · rintro ⟨q, hq, h⟩
      rcases List.mem_cons.1 hq with rfl | hq
      · rcases h with h | h
        · exact .inl h
        · exact .inr (.inl h)
      · exact .inr (.inr ⟨q, hq, h⟩)
/-- A slice that holds numbers. -/
def IsL (w : World) (v : Value) (l : List Int) : Prop := ∃ oa cap, v = .slice oa l.length cap ∧ l.length ≤ cap ∧ (0 < l.length → ∃ g, oa = some ⟨g, 0, none⟩ ∧ g < w.heap.size ∧ ∀ i (h : i < l.length), w.cell? ⟨g, i, none⟩ = some (.int .i64 l[i]))
theorem IsL.below {w w' : World} {v : Value} {l : List Int} (h : IsL w v l) (hb : Below w.heap.size w w') : IsL w' v l := by
  obtain ⟨oa, cap, e, hc, hg⟩ := h
  refine ⟨oa, cap, e, hc, fun hp => ?_⟩
  obtain ⟨g, e1, g1, g2⟩ := hg hp
  exact ⟨g, e1, Nat.lt_of_lt_of_le g1 hb.size, fun i hi => by rw [hb.cell (p := ⟨g, i, none⟩) g1]; exact g2 i hi⟩
theorem info_int : (Try.prog.info? 3).map (fun i => (i.zero, i.size, i.bytes)) = some (some (.int .i64 0), 1, 8) := by kernel_rfl

def EIn (M : List Rc) (acc : List Int) (w : World) (hb : Nat) (va vb : Value) (j : Nat) (v : Value) (wr : World) : Prop :=
  j ≤ M.length ∧ wr.ownsRow w.heap.size 3 1 v (acc ++ ysL (M.take j)).length ((acc ++ ysL (M.take j)).map (Value.int .i64)) ∧ Below w.heap.size w wr ∧ Bk wr hb #[va, vb] 23 ∧ v.ownBlock ≠ some hb
def EOut (A B : List Rc) (w : World) (hb : Nat) (va vb : Value) (k : Nat) (v : Value) (wr : World) : Prop :=
  k ≤ 2 ∧ wr.ownsRow w.heap.size 3 1 v (ysL (([A, B].take k).flatten)).length ((ysL (([A, B].take k).flatten)).map (Value.int .i64)) ∧ Below w.heap.size w wr ∧ Bk wr hb #[va, vb] 23 ∧ v.ownBlock ≠ some hb
theorem below_put {B : Nat} {w0 w : World} (h : Below B w0 w) (blk n : Nat) (d : Array Int) (hb : B ≤ blk) : Below B w0 (putRow (Value.int .i64) (Sort.ahead w n) blk 0 d) := by
  refine ⟨h.os, h.tape, h.output, by rw [size_putRow]; exact h.size, fun k hk => ?_⟩
  unfold putRow mapBlock
  show (w.heap.modify blk _)[k]? = _
  rw [Array.getElem?_modify, if_neg (by omega)]
  exact h.block k hk
theorem below_grow {B : Nat} {w0 w : World} (h : Below B w0 w) (os : Array Obj) (hB : B ≤ w.heap.size) : Below B w0 (grow w os) :=
  ⟨h.os, h.tape, h.output, by rw [size_grow]; have := h.size; omega, fun k hk => (heap_grow_old w os (by omega)).trans (h.block k hk)⟩
theorem holds_ints {w : World} {base g cap : Nat} {e : TypeId} {zs : List Int} (h : w.ownsRow base e 1 (.slice (some ⟨g, 0, none⟩) zs.length cap) zs.length (zs.map (Value.int .i64))) : Holds (Value.int .i64) w g 0 zs.toArray := by
  intro j hj
  have hj' : j < zs.length := by simpa using hj
  refine ⟨?_, own_frozen h _⟩
  rw [Nat.zero_add, own_cell h j (by omega)]
  simp [hj']
theorem one2i (a b : Int) : ∀ u ∈ ([a, b].map (Value.int .i64)), u.oneCell' = true := by
  intro u hu
  simp at hu
  rcases hu with rfl | rfl <;> rfl

set_option maxRecDepth 10000 in
set_option maxHeartbeats 8000000 in
theorem edges_any (A B : List Rc) (va vb : Value) (w : World) (hva : LsR w va A) (hvb : LsR w vb B) (hA : ∀ r ∈ A, keepE r = true) (hB : ∀ r ∈ B, keepE r = true) (hlA : A.length ≤ 400000) (hlB : B.length ≤ 400000) :
    Calls Try.prog 78 #[va, vb] w fun e w' => ∃ (u : Value) (ys : List Int), e = .returned u ∧ IsL w' u ys ∧ Inc ys ∧ (∀ n, n ∈ ys ↔ n ∈ ysL (A ++ B)) ∧ ys.length ≤ 2000000 ∧ Below w.heap.size w w' := by
  obtain ⟨i0, hi, hz0, hz1, hz2⟩ := info_parts info_int
  have HI : Hid (Try.prog.info? 3 = some i0 ∧ i0.zero = some (.int .i64 0) ∧ i0.size = 1 ∧ i0.bytes = 8) := ⟨hi, hz0, hz1, hz2⟩
  obtain ⟨oa, ca, rfl, hca, hga⟩ := hva
  obtain ⟨ob, cb, rfl, hcb, hgb⟩ := hvb
  have HL : Hid (((0 < A.length → ∃ g o, oa = some ⟨g, o, none⟩ ∧ g < w.heap.size ∧ ∀ i (h : i < A.length), RcAt w g (o + i * 4) A[i]) ∧ (0 < B.length → ∃ g o, ob = some ⟨g, o, none⟩ ∧ g < w.heap.size ∧ ∀ i (h : i < B.length), RcAt w g (o + i * 4) B[i])) ∧ (∀ r ∈ A, keepE r = true) ∧ (∀ r ∈ B, keepE r = true)) := ⟨⟨hga, hgb⟩, hA, hB⟩
  clear hi hz0 hz1 hz2 hga hgb hA hB
  go_enter Try.func78, Try.ntmps78
  go_wp2_with fail
  obtain ⟨hb, hhb⟩ : ∃ hb, hb = w.heap.size := ⟨_, rfl⟩
  have HE0 : Hid (EOut A B w hb (.slice oa A.length ca) (.slice ob B.length cb) 0 (.slice none 0 0) (w.alloc (.cells #[.slice oa A.length ca, .slice ob B.length cb] 23))) := by
    rw [hhb]
    exact ⟨by omega, World.ownsRow_nil _ _ _ _, (Below.refl _ w).alloc (Nat.le_refl _) _, Bk.new _ _ _, fun h => by cases h⟩
  obtain ⟨W, hW⟩ : ∃ W, W = w.alloc (.cells #[.slice oa A.length ca, .slice ob B.length cb] 23) := ⟨_, rfl⟩
  rw [← hW] at HE0 ⊢
  rw [← hhb]
  have Hhb : Hid (hb = w.heap.size) := hhb
  clear hW hhb
  go_loopw [5, 14] (fun v i wr => ∃ k : Nat, i = .int .i64 k ∧ EOut A B w hb (.slice oa A.length ca) (.slice ob B.length cb) k v wr) (fun _ i _ => 2 - (intOf i).toNat)
  case atStart => exact ⟨0, rfl, HE0.out⟩
  case round =>
    obtain ⟨k, rfl, hI⟩ := hrel
    have HO : Hid (EOut A B w hb (.slice oa A.length ca) (.slice ob B.length cb) k u5 wr) := hI
    obtain ⟨hk, hown, hBr, hbk, hnb⟩ := hI
    by_cases hlt : k < 2
    · obtain ⟨M, oM, cM, hcell, hM, hMk, hMl, hacc, hal⟩ : ∃ (M : List Rc) (oM : Option Addr) (cM : Nat), wr.cell? ⟨hb, k, none⟩ = some (.slice oM M.length cM) ∧ (0 < M.length → ∃ g o, oM = some ⟨g, o, none⟩ ∧ g < w.heap.size ∧ ∀ i (h : i < M.length), RcAt w g (o + i * 4) M[i]) ∧ (∀ r ∈ M, keepE r = true) ∧ (M.length ≤ 400000 ∧ M.length ≤ cM) ∧ ysL (([A, B].take (k + 1)).flatten) = ysL (([A, B].take k).flatten) ++ ysL M ∧ (ysL (([A, B].take k).flatten)).length ≤ 800000 := by
        rcases (show k = 0 ∨ k = 1 by omega) with rfl | rfl
        · exact ⟨A, oa, ca, by rw [hbk.cell]; rfl, HL.out.1.1, HL.out.2.1, ⟨hlA, hca⟩, by simp [ysL], by simp [ysL]⟩
        · exact ⟨B, ob, cb, by rw [hbk.cell]; rfl, HL.out.1.2, HL.out.2.2, ⟨hlB, hcb⟩, by simp [ysL_app], by simp [ysL_len]; omega⟩
      obtain ⟨acc, hac⟩ : ∃ acc, acc = ysL (([A, B].take k).flatten) := ⟨_, rfl⟩
      rw [← hac] at hown hacc hal
      have HA : Hid (ysL (([A, B].take (k + 1)).flatten) = acc ++ ysL M ∧ (0 < M.length → ∃ g o, oM = some ⟨g, o, none⟩ ∧ g < w.heap.size ∧ ∀ i (h : i < M.length), RcAt w g (o + i * 4) M[i]) ∧ (∀ r ∈ M, keepE r = true)) := ⟨hacc, hM, hMk⟩
      have HE1 : Hid (EIn M acc w hb (.slice oa A.length ca) (.slice ob B.length cb) 0 u5 wr) := ⟨Nat.zero_le _, by simpa [ysL] using hown, hBr, hbk, hnb⟩
      obtain ⟨hMl1, hMl2⟩ := hMl
      clear hac hacc hown hBr hbk hnb hM hMk HO
      go_wp2_with fail
      clear hcell
      generalize decide ((k : Int) < 2) = bk
      go_loopw [5, 20] (fun v i wq => ∃ j : Nat, i = .int .i64 j ∧ EIn M acc w hb (.slice oa A.length ca) (.slice ob B.length cb) j v wq) (fun _ i _ => M.length - (intOf i).toNat)
      case atStart => exact ⟨0, rfl, HE1.out⟩
      case round =>
        obtain ⟨j, rfl, hI⟩ := hrel
        have HQ : Hid (EIn M acc w hb (.slice oa A.length ca) (.slice ob B.length cb) j u5 wr) := hI
        obtain ⟨hjl, hown, hBr, hbk, hnb⟩ := hI
        by_cases hj : j < M.length
        · obtain ⟨g, o, rfl, hg, hat⟩ := HA.out.2.1 (by omega)
          have hx := (hat j hj).kept (w' := wr) fun i => hBr.cell (p := ⟨g, i, none⟩) hg
          have e1 : M.take (j + 1) = M.take j ++ [M[j]] := (List.take_append_getElem hj).symm
          have hkp := (keepE_iff _).1 (HA.out.2.2 _ (List.getElem_mem hj))
          have hl1 : (acc ++ ysL (M.take j)).length ≤ 1600000 := by rw [List.length_append, ysL_len, List.length_take]; omega
          generalize M[j] = x at *
          obtain ⟨ac, hac⟩ : ∃ ac, ac = acc ++ ysL (M.take j) := ⟨_, rfl⟩
          rw [← hac] at hown hl1
          have HN : Hid (acc ++ ysL (M.take (j + 1)) = ac ++ [x.y, x.y + x.h]) := by unfold Hid; rw [e1, ysL_app, ← List.append_assoc, ← hac]; rfl
          have HW : Hid (∀ o o2, ((wr.alloc o).alloc o2).ownsRow w.heap.size 3 1 u5 ac.length (ac.map (Value.int .i64)) ∧ Below w.heap.size w ((wr.alloc o).alloc o2) ∧ Bk ((wr.alloc o).alloc o2) hb #[.slice oa A.length ca, .slice ob B.length cb] 23) := fun o o2 => by
            have hb2 : Below wr.heap.size wr ((wr.alloc o).alloc o2) := ((Below.refl _ wr).alloc (Nat.le_refl _) o).alloc (by simp) o2
            exact ⟨row_below hown hb2, hBr.trans (hb2.mono hBr.size), hbk.below hb2⟩
          have HU : Hid (u5.ownBlock ≠ some hb) := hnb
          have hbl := hbk.lt
          have hc3 : Hid (ac.length + 2 ≤ maxLen) := by unfold Hid maxLen; omega
          have hc4 : Hid ((ac.length + 2) * 8 ≤ 140737488355328) := by unfold Hid; omega
          obtain ⟨x0, x1, x2, x3⟩ := hx
          clear hown hBr hbk hat e1 hac hnb HQ
          obtain ⟨hi, hz0, hz1, hz2⟩ := HI.out
          go_wp2_with (at_builtin; refine wpList_append_own_at _ rfl _ _ 64 rfl w.heap.size 3 i0 (.int .i64 0) 1 8 Try.underlying64 hi hz0 hz1 hz2 rfl (by decide) u5 ac.length (ac.map (Value.int .i64)) rfl (HW.out _ _).1 _ 2 2 ([x.y, x.y + x.h].map (Value.int .i64)) rfl rfl (cell_twoB _ _ _ _ _ (by simp)) (one2i _ _) hc3.out hc4.out (HW.out _ _).2.1.size ?_)
          intro v' w4 hown' hgrow hnil hat4
          have HRel : Hid (∃ j' : Nat, Value.int .i64 ((j : Int) + 1) = .int .i64 j' ∧ EIn M acc w hb (.slice oa A.length ca) (.slice ob B.length cb) j' v' w4) := by
            refine ⟨j + 1, by go_num, by omega, ?_, app_below (HW.out _ _).2.1 (HW.out _ _).1 (Nat.le_refl _) hgrow, (HW.out _ _).2.2.grown hgrow HU.out, ?_⟩
            · rw [HN.out, List.length_append, List.map_append]
              exact hown'
            · rcases hat4 with h | h
              · rw [h]; exact HU.out
              · rw [h]
                intro e
                injection e with e
                omega
          clear hown' hgrow hnil hat4 hi hz0 hz1 hz2
          go_wp2
          go_roundw
          case rel =>
            first
              | exact HRel.out
              | (repeat apply Exists.intro
                 exact ⟨HRel.out, rfl⟩)
          case measure => simp [intOf]; omega
        · obtain rfl : j = M.length := by omega
          rw [List.take_length] at hown
          have HRel : Hid (∃ k' : Nat, Value.int .i64 ((k : Int) + 1) = .int .i64 k' ∧ EOut A B w hb (.slice oa A.length ca) (.slice ob B.length cb) k' u5 wr) := by
            refine ⟨k + 1, by go_num, by omega, ?_, hBr, hbk, hnb⟩
            rw [HA.out.1]
            exact hown
          clear hown hBr hbk hnb HQ
          go_wp2
          exact ⟨HRel.out, by simp [intOf]; omega⟩
    · obtain rfl : k = 2 := by omega
      have e2 : ([A, B].take 2).flatten = A ++ B := by simp
      rw [e2] at hown
      obtain ⟨zs, hzs⟩ : ∃ zs, zs = ysL (A ++ B) := ⟨_, rfl⟩
      rw [← hzs] at hown
      have hzl : zs.length ≤ 1600000 := by rw [hzs, ysL_len, List.length_append]; omega
      have HZ : Hid (zs = ysL (A ++ B)) := hzs
      obtain ⟨oa2, cap2, rfl, hcap2, hoa⟩ := row_val hown
      obtain ⟨s1, s2⟩ := sorted_list zs
      have hcl : (Lib.compact (zs.mergeSort fun x y => decide (x ≤ y))).length ≤ zs.length := by
        have := List.length_filter_le (Lib.keeps (zs.mergeSort fun x y => decide (x ≤ y)).toArray) (List.range (zs.mergeSort fun x y => decide (x ≤ y)).length)
        rw [List.length_range, List.length_mergeSort] at this
        unfold Lib.compact Lib.compactUpTo
        rw [List.length_map, List.length_mergeSort]
        exact this
      by_cases h0 : zs.length = 0
      · have hz0 : zs = [] := List.length_eq_zero_iff.1 h0
        have HB : Hid (Below w.heap.size w wr ∧ ∀ n, n ∈ ysL (A ++ B) → False) := ⟨hBr, fun n hn => by rw [← hzs, hz0] at hn; cases hn⟩
        have H1 : Hid (∀ W, Calls Try.prog 84 #[.slice oa2 0 cap2] W fun e w' => e = .returned (.tuple #[]) ∧ w' = W) := fun W => Any.slices_Sort_int_none Try.lays189 oa2 cap2 W
        have H2 : Hid (∀ W, Calls Try.prog 85 #[.slice oa2 0 cap2] W fun e w' => e = .returned (.slice oa2 0 cap2) ∧ w' = W) := fun W => Any.slices_Compact_int_empty Try.lays20 oa2 cap2 W
        rw [h0]
        clear hown hBr hbk hnb hoa s1 s2 hcl hz0 hzs HO
        go_wp2_with fail
        refine (H1.out _).mono ?_
        rintro e w1 ⟨rfl, rfl⟩
        go_wp2_with fail
        refine (H2.out _).mono ?_
        rintro e w2 ⟨rfl, rfl⟩
        go_wp2
        go_ret
        exact ⟨_, [], rfl, ⟨oa2, cap2, rfl, Nat.zero_le _, fun h => absurd h (Nat.lt_irrefl 0)⟩, trivial, fun n => ⟨(fun h => by cases h), (fun h => absurd h (HB.out.2 n))⟩, by simp, HB.out.1⟩
      · obtain ⟨g, rfl, hg1, hg2⟩ := hoa (by omega)
        have hH := holds_ints hown
        obtain ⟨t, ht⟩ : ∃ t, t = zs.mergeSort fun x y => decide (x ≤ y) := ⟨_, rfl⟩
        have htl : t.length = zs.length := by rw [ht, List.length_mergeSort]
        have hs1 := Any.slices_Sort_int Try.lays189 g 0 cap2 zs wr hH hg2 (by omega)
        change Calls Try.prog 84 _ _ _ at hs1
        rw [← ht] at hs1 s1 s2 hcl
        obtain ⟨c, hc⟩ : ∃ c, c = Lib.compact t := ⟨_, rfl⟩
        have HCon : Hid (∀ n os, Calls Try.prog 85 #[.slice (some ⟨g, 0, none⟩) zs.length cap2] (grow (putRow (Value.int .i64) (Sort.ahead wr n) g 0 t.toArray) os) fun e w' => e = .returned (.slice (some ⟨g, 0, none⟩) c.length cap2) ∧ IsL w' (.slice (some ⟨g, 0, none⟩) c.length cap2) c ∧ Below w.heap.size w w') := by
          intro n os
          have hb1 : Below w.heap.size w (putRow (Value.int .i64) (Sort.ahead wr n) g 0 t.toArray) := below_put hBr g n _ hg1
          have hgs : g < (putRow (Value.int .i64) (Sort.ahead wr n) g 0 t.toArray).heap.size := by rw [size_putRow]; exact hg2
          have hH1 : Holds (Value.int .i64) (putRow (Value.int .i64) (Sort.ahead wr n) g 0 t.toArray) g 0 t.toArray := holds_putRow _ _ _ _ zs.toArray _ hH (by simp [htl])
          have hH2 := holds_grow (Value.int .i64) _ os g 0 t.toArray hgs hH1
          have hcm := Any.slices_Compact_int Try.lays20 g 0 cap2 t _ hH2 (by omega) (by omega)
          change Calls Try.prog 85 _ _ _ at hcm
          rw [htl, ← hc] at hcm
          refine hcm.mono ?_
          rintro e w' ⟨he, q, rfl⟩
          have hlen : c.length ≤ zs.length := by rw [hc]; exact hcl
          have hH3 := holds_putRow (Value.int .i64) (Sort.ahead (grow (putRow (Value.int .i64) (Sort.ahead wr n) g 0 t.toArray) os) q) g 0 t.toArray (c ++ List.replicate (zs.length - c.length) 0).toArray hH2 (by simp [htl]; omega)
          refine ⟨he, ⟨_, cap2, rfl, by omega, fun _ => ⟨g, rfl, ?_, fun i hi => ?_⟩⟩, below_put (below_grow hb1 os hb1.size) g q _ hg1⟩
          · rw [size_putRow]; show g < (grow _ os).heap.size; rw [size_grow]; omega
          · have := (hH3 i (by simp; omega)).1
            rw [Nat.zero_add] at this
            rw [this]
            congr 2
            simp [show i < c.length + (zs.length - c.length) by omega, List.getElem_append_left, hi]
        have HF : Hid (Inc c ∧ (∀ n, n ∈ c ↔ n ∈ ysL (A ++ B)) ∧ c.length ≤ 2000000) := by
          rw [hc]
          refine ⟨s1, fun n => by rw [s2, hzs], by omega⟩
        have HS : Hid (Calls Try.prog 84 #[.slice (some ⟨g, 0, none⟩) zs.length cap2] wr fun e w' => e = .returned (.tuple #[]) ∧ ∃ n os, w' = grow (putRow (Value.int .i64) (Sort.ahead wr n) g 0 t.toArray) os) := hs1
        clear hs1 hH hown hBr hbk hnb hoa s1 s2 hcl hzs HO hc ht
        go_wp2_with fail
        refine HS.out.mono ?_
        rintro e w1 ⟨rfl, n, os, hw1⟩
        have HC1 : Hid (Calls Try.prog 85 #[.slice (some ⟨g, 0, none⟩) zs.length cap2] w1 fun e w' => e = .returned (.slice (some ⟨g, 0, none⟩) c.length cap2) ∧ IsL w' (.slice (some ⟨g, 0, none⟩) c.length cap2) c ∧ Below w.heap.size w w') := by unfold Hid; rw [hw1]; exact HCon.out n os
        clear hw1
        go_wp2_with fail
        refine HC1.out.mono ?_
        rintro e w2 ⟨rfl, hI, hb2⟩
        have HI2 : Hid (IsL w2 (.slice (some ⟨g, 0, none⟩) c.length cap2) c ∧ Below w.heap.size w w2) := ⟨hI, hb2⟩
        clear hI hb2
        go_wp2
        go_ret
        exact ⟨_, c, rfl, HI2.out.1, HF.out.1, HF.out.2.1, HF.out.2.2, HI2.out.2⟩

end Go.Proofs.Ytagkbpceiedikaa
