/-
  The statements' own helpers: t, is, alive; lists of numbers that are the same.
-/
import Derived.Test.YtchjmmchflbfcaaXI
namespace Go.Proofs.Ytchjmmchflbfcaa
open Go.RowKit

theorem take_eq {xs ys : List Int} (k : Nat) (hx : k < xs.length) (hy : k < ys.length) (h : xs.take k = ys.take k) (e : xs[k] = ys[k]) : xs.take (k + 1) = ys.take (k + 1) := by
  rw [← List.take_append_getElem hx, ← List.take_append_getElem hy, h, e]
theorem take_ne {xs ys : List Int} (k : Nat) (hx : k < xs.length) (hy : k < ys.length) (e : xs[k] ≠ ys[k]) : xs ≠ ys := by
  rintro rfl
  exact e rfl

set_option maxHeartbeats 1000000 in
theorem same_any (xs ys : List Int) (v u : Value) (w : World) (hv : IS w v xs) (hu : IS w u ys) (hm : xs.length ≤ 2000000) :
    Calls Try.prog 18 #[v, u] w fun e w' => e = .returned (.bool (decide (xs = ys))) ∧ Below w.heap.size w w' := by
  obtain ⟨oa, ca, rfl, hca, hga⟩ := hv
  obtain ⟨ob, cb, rfl, hcb, hgb⟩ := hu
  have HA : Hid (0 < xs.length → ∃ g o, oa = some ⟨g, o, none⟩ ∧ g < w.heap.size ∧ ∀ i (h : i < xs.length), w.cell? ⟨g, o + i, none⟩ = some (.int .i64 xs[i])) := hga
  have HB : Hid (0 < ys.length → ∃ g o, ob = some ⟨g, o, none⟩ ∧ g < w.heap.size ∧ ∀ i (h : i < ys.length), w.cell? ⟨g, o + i, none⟩ = some (.int .i64 ys[i])) := hgb
  clear hga hgb
  obtain ⟨R, HR⟩ : ∃ R, Hid (R = decide (xs = ys)) := ⟨_, rfl⟩
  rw [← HR.out]
  by_cases hl : xs.length = ys.length
  · rw [← hl]
    have HL0 : Hid (xs.length = ys.length) := hl
    rw [← hl] at hcb
    clear hl
    go_enter Try.func18, Try.ntmps18
    go_wp2_with fail
    go_loopw [5] (fun i wr => ∃ k : Nat, i = .int .i64 k ∧ k ≤ xs.length ∧ Hid (xs.take k = ys.take k ∧ Below w.heap.size w wr)) (fun i _ => xs.length - (intOf i).toNat)
    case atStart => exact ⟨0, rfl, Nat.zero_le _, rfl, Below.refl _ _⟩
    case round =>
      obtain ⟨k, rfl, hk, HK⟩ := hrel
      by_cases hlt : k < xs.length
      · have ik : (k : Int) < xs.length := by omega
        have hk2 : k < ys.length := by rw [← HL0.out]; exact hlt
        obtain ⟨g, o, rfl, hg, hat⟩ := HA.out (by omega)
        obtain ⟨g2, o2, rfl, hg2, hat2⟩ := HB.out (by omega)
        have x0 : wr.cell? ⟨g, o + k, none⟩ = some (.int .i64 xs[k]) := (HK.out.2.cell (p := ⟨g, o + k, none⟩) hg).trans (hat k hlt)
        have y0 : wr.cell? ⟨g2, o2 + k, none⟩ = some (.int .i64 ys[k]) := (HK.out.2.cell (p := ⟨g2, o2 + k, none⟩) hg2).trans (hat2 k hk2)
        have HT : Hid ((xs[k] = ys[k] → xs.take (k + 1) = ys.take (k + 1)) ∧ (xs[k] ≠ ys[k] → R = false)) := ⟨fun e => take_eq k hlt hk2 HK.out.1 e, fun e => by rw [HR.out]; exact decide_eq_false (take_ne k hlt hk2 e)⟩
        clear hat hat2
        generalize xs[k] = p at *
        generalize ys[k] = q at *
        clear hk2
        have HL : Hid (∀ n, Below w.heap.size w (wr.drewN n)) := fun n => below_drewN HK.out.2
        by_cases c : p = q
        · have H1 : Hid (xs.take (k + 1) = ys.take (k + 1)) := HT.out.1 c
          clear HT HK
          subst c
          go_wp2_with fail
          go_quiet (fail)
          go_wp2
          exact ⟨⟨k + 1, by go_num, by omega, H1.out, HL.out _⟩, by simp [intOf]; omega⟩
        · have H1 : Hid (R = false) := HT.out.2 c
          clear HT HK
          go_wp2_with fail
          go_quiet (fail)
          go_wp2
          go_ret
          exact ⟨by rw [H1.out]; rfl, HL.out _⟩
      · obtain rfl : k = xs.length := by omega
        have HF : Hid (R = true ∧ Below w.heap.size w wr) := by
          refine ⟨?_, HK.out.2⟩
          rw [HR.out]
          refine decide_eq_true ?_
          have h := HK.out.1
          rw [List.take_length] at h
          rw [h, HL0.out, List.take_length]
        clear HK
        go_wp2
        go_ret
        exact ⟨by rw [HF.out.1]; rfl, HF.out.2⟩
  · have H1 : Hid (R = false) := by unfold Hid; rw [HR.out]; exact decide_eq_false fun e => hl (by rw [e])
    have hi : ¬ (xs.length : Int) = ys.length := by omega
    clear hl
    go_enter Try.func18, Try.ntmps18
    go_wp2
    go_ret
    exact ⟨by rw [H1.out]; rfl, Below.refl _ _⟩

theorem t_any (a b c : Int) (w : World) : Calls Try.prog 9 #[.int .i64 a, .int .i64 b, .int .i64 c] w fun e w' => e = .returned (.agg #[.int .i64 a, .int .i64 b, .int .i64 c]) ∧ Below w.heap.size w w' := by
  go_enter Try.func9, Try.ntmps9
  go_wp2
  exact bodyPost_ret (v := .agg #[.int .i64 a, .int .i64 b, .int .i64 c]) (by simp [results, Try.results9, go_sem]) rfl ⟨rfl, (Below.refl _ _).alloc (Nat.le_refl _) _⟩

set_option maxHeartbeats 1000000 in
theorem is_bad (xs ys : List Int) (er : Int) (v u : Value) (w : World) (hv : IS w v xs) (hu : IS w u ys) (he : er ≠ 0) :
    Calls Try.prog 14 #[v, .int .i64 er, u] w fun e w' => e = .returned (.bool false) ∧ Below w.heap.size w w' := by
  obtain ⟨oa, ca, rfl, hca, _⟩ := hv
  obtain ⟨ob, cb, rfl, hcb, _⟩ := hu
  have hne : (er != 0) = true := by simpa using he
  clear he
  go_enter Try.func14, Try.ntmps14
  go_wp2
  go_ret
  exact ⟨rfl, Below.refl _ _⟩

set_option maxHeartbeats 1000000 in
theorem is_any (xs ys : List Int) (v u : Value) (w : World) (hv : IS w v xs) (hu : IS w u ys) (hm : xs.length ≤ 2000000) :
    Calls Try.prog 14 #[v, .int .i64 0, u] w fun e w' => e = .returned (.bool (decide (xs = ys))) ∧ Below w.heap.size w w' := by
  obtain ⟨oa, ca, rfl, hca, hga⟩ := hv
  obtain ⟨ob, cb, rfl, hcb, hgb⟩ := hu
  have HA : Hid (0 < xs.length → ∃ g o, oa = some ⟨g, o, none⟩ ∧ g < w.heap.size ∧ ∀ i (h : i < xs.length), w.cell? ⟨g, o + i, none⟩ = some (.int .i64 xs[i])) := hga
  have HB : Hid (0 < ys.length → ∃ g o, ob = some ⟨g, o, none⟩ ∧ g < w.heap.size ∧ ∀ i (h : i < ys.length), w.cell? ⟨g, o + i, none⟩ = some (.int .i64 ys[i])) := hgb
  clear hga hgb
  obtain ⟨R, HR⟩ : ∃ R, Hid (R = decide (xs = ys)) := ⟨_, rfl⟩
  rw [← HR.out]
  by_cases hl : xs.length = ys.length
  · rw [← hl]
    have HL0 : Hid (xs.length = ys.length) := hl
    rw [← hl] at hcb
    clear hl
    go_enter Try.func14, Try.ntmps14
    go_wp2_with fail
    go_loopw [7] (fun i wr => ∃ k : Nat, i = .int .i64 k ∧ k ≤ xs.length ∧ Hid (xs.take k = ys.take k ∧ Below w.heap.size w wr)) (fun i _ => xs.length - (intOf i).toNat)
    case atStart => exact ⟨0, rfl, Nat.zero_le _, rfl, Below.refl _ _⟩
    case round =>
      obtain ⟨k, rfl, hk, HK⟩ := hrel
      by_cases hlt : k < xs.length
      · have ik : (k : Int) < xs.length := by omega
        have hk2 : k < ys.length := by rw [← HL0.out]; exact hlt
        obtain ⟨g, o, rfl, hg, hat⟩ := HA.out (by omega)
        obtain ⟨g2, o2, rfl, hg2, hat2⟩ := HB.out (by omega)
        have x0 : wr.cell? ⟨g, o + k, none⟩ = some (.int .i64 xs[k]) := (HK.out.2.cell (p := ⟨g, o + k, none⟩) hg).trans (hat k hlt)
        have y0 : wr.cell? ⟨g2, o2 + k, none⟩ = some (.int .i64 ys[k]) := (HK.out.2.cell (p := ⟨g2, o2 + k, none⟩) hg2).trans (hat2 k hk2)
        have HT : Hid ((xs[k] = ys[k] → xs.take (k + 1) = ys.take (k + 1)) ∧ (xs[k] ≠ ys[k] → R = false)) := ⟨fun e => take_eq k hlt hk2 HK.out.1 e, fun e => by rw [HR.out]; exact decide_eq_false (take_ne k hlt hk2 e)⟩
        clear hat hat2
        generalize xs[k] = p at *
        generalize ys[k] = q at *
        clear hk2
        have HL : Hid (∀ n, Below w.heap.size w (wr.drewN n)) := fun n => below_drewN HK.out.2
        by_cases c : p = q
        · have H1 : Hid (xs.take (k + 1) = ys.take (k + 1)) := HT.out.1 c
          clear HT HK
          subst c
          go_wp2_with fail
          go_quiet (fail)
          go_wp2
          exact ⟨⟨k + 1, by go_num, by omega, H1.out, HL.out _⟩, by simp [intOf]; omega⟩
        · have H1 : Hid (R = false) := HT.out.2 c
          clear HT HK
          go_wp2_with fail
          go_quiet (fail)
          go_wp2
          go_ret
          exact ⟨by rw [H1.out]; rfl, HL.out _⟩
      · obtain rfl : k = xs.length := by omega
        have HF : Hid (R = true ∧ Below w.heap.size w wr) := by
          refine ⟨?_, HK.out.2⟩
          rw [HR.out]
          refine decide_eq_true ?_
          have h := HK.out.1
          rw [List.take_length] at h
          rw [h, HL0.out, List.take_length]
        clear HK
        go_wp2
        go_ret
        exact ⟨by rw [HF.out.1]; rfl, HF.out.2⟩
  · have H1 : Hid (R = false) := by unfold Hid; rw [HR.out]; exact decide_eq_false fun e => hl (by rw [e])
    have hi : ¬ (xs.length : Int) = ys.length := by omega
    clear hl
    go_enter Try.func14, Try.ntmps14
    go_wp2
    go_ret
    exact ⟨by rw [H1.out]; rfl, Below.refl _ _⟩

/-- Tracks, cell by cell. -/
def celT (t : Tk) : List Value := [.int .i64 t.mn, .int .i64 t.mx, .int .i64 t.gr]
def flatT : List Tk → List Value
  | [] => []
  | t :: l => celT t ++ flatT l
theorem flatT_app (l m : List Tk) : flatT (l ++ m) = flatT l ++ flatT m := by
  induction l with
  | nil => rfl
  | cons r l ih => show celT r ++ flatT (l ++ m) = (celT r ++ flatT l) ++ flatT m; rw [ih, List.append_assoc]
theorem flatT_len (l : List Tk) : (flatT l).length = l.length * 3 := by
  induction l with
  | nil => rfl
  | cons r l ih => show (celT r ++ flatT l).length = _; rw [List.length_append, ih]; simp [celT]; omega
theorem flatT_at (l : List Tk) (k : Nat) (h : k < l.length) : (flatT l)[k * 3]? = some (.int .i64 l[k].mn) ∧ (flatT l)[k * 3 + 1]? = some (.int .i64 l[k].mx) ∧ (flatT l)[k * 3 + 2]? = some (.int .i64 l[k].gr) := by
  induction l generalizing k with
  | nil => simp at h
  | cons r l ih =>
    cases k with
    | zero => simp [flatT, celT]
    | succ k =>
      have e : ∀ j, (flatT (r :: l))[(k + 1) * 3 + j]? = (flatT l)[k * 3 + j]? := fun j => by
        show (celT r ++ flatT l)[(k + 1) * 3 + j]? = _
        rw [List.getElem?_append_right (by simp [celT]; omega)]
        congr 1
        simp [celT]
        omega
      have h' : k < l.length := by simpa using h
      obtain ⟨i0, i1, i2⟩ := ih k h'
      have e0 := e 0
      rw [Nat.add_zero, Nat.add_zero] at e0
      exact ⟨e0.trans i0, (e 1).trans i1, (e 2).trans i2⟩
theorem ts_lit {w : World} {b : Nat} {T : List Tk} (h : Bk w b (flatT T).toArray 27) : TS w (.slice (some ⟨b, 0, none⟩) T.length T.length) T := by
  refine ⟨_, _, rfl, Nat.le_refl _, fun _ => ⟨b, 0, rfl, h.lt, fun i hi => ?_⟩⟩
  obtain ⟨a0, a1, a2⟩ := flatT_at T i hi
  refine ⟨?_, ?_, ?_⟩
  · rw [Nat.zero_add, h.cell]; simpa using a0
  · rw [Nat.zero_add, h.cell]; simpa using a1
  · rw [Nat.zero_add, h.cell]; simpa using a2
theorem share_lit (T : List Tk) (room : Int) (xs : List Int) (er : Int) (h1 : shL T room = xs) (h2 : shE T room = er) (W : World) (b : Nat) (h : Bk W b (flatT T).toArray 27) : Calls Try.prog 8 #[.slice (some ⟨b, 0, none⟩) T.length T.length, .int .i64 room] W fun e w' => AnsI W xs er e w' := by
  rw [← h1, ← h2]
  exact Share_any T room _ W (ts_lit h)
theorem row_lit (T : List Tk) (gap room : Int) (xs ys : List Int) (er : Int) (h1 : rwL T gap room = xs) (h2 : rwS T gap room = ys) (h3 : rwE T gap room = er) (W : World) (b : Nat) (h : Bk W b (flatT T).toArray 27) : Calls Try.prog 13 #[.slice (some ⟨b, 0, none⟩) T.length T.length, .int .i64 gap, .int .i64 room] W fun e w' => AnsR W xs ys er e w' := by
  rw [← h1, ← h2, ← h3]
  exact Row_any T gap room _ W (ts_lit h)
theorem is_lit (xs : List Int) (v : Value) (b : Nat) (W : World) (hv : IS W v xs) (hb : Bk W b (flatI xs).toArray 3) (hm : xs.length ≤ 1000) : Calls Try.prog 14 #[v, .int .i64 0, .slice (some ⟨b, 0, none⟩) xs.length xs.length] W fun e w' => e = .returned (.bool true) ∧ Below W.heap.size W w' := by
  have h := is_any xs xs v _ W hv (Nb.is hb) (by omega)
  rw [decide_eq_true rfl] at h
  exact h

set_option maxRecDepth 10000 in
set_option maxHeartbeats 4000000 in
theorem alive_any (w : World) : Calls Try.prog 15 #[] w fun e w' => e = .returned (.bool true) ∧ Below w.heap.size w w' := by
  have Ht : Hid (∀ a b c W, Calls Try.prog 9 #[.int .i64 a, .int .i64 b, .int .i64 c] W fun e w' => e = .returned (.agg #[.int .i64 a, .int .i64 b, .int .i64 c]) ∧ Below W.heap.size W w') := t_any
  have H1 : Hid (∀ W b, Bk W b #[.int .i64 2, .int .i64 0, .int .i64 1, .int .i64 3, .int .i64 0, .int .i64 1] 27 → Calls Try.prog 8 #[.slice (some ⟨b, 0, none⟩) 2 2, .int .i64 12] W fun e w' => AnsI W [6, 6] 0 e w') := fun W b h => share_lit [⟨2, 0, 1⟩, ⟨3, 0, 1⟩] 12 [6, 6] 0 (by decide +kernel) (by decide +kernel) W b h
  have H2 : Hid (∀ W b, Bk W b #[.int .i64 1, .int .i64 0, .int .i64 1, .int .i64 1, .int .i64 0, .int .i64 1] 27 → Calls Try.prog 13 #[.slice (some ⟨b, 0, none⟩) 2 2, .int .i64 2, .int .i64 10] W fun e w' => AnsR W [4, 4] [0, 6] 0 e w') := fun W b h => row_lit [⟨1, 0, 1⟩, ⟨1, 0, 1⟩] 2 10 [4, 4] [0, 6] 0 (by decide +kernel) (by decide +kernel) (by decide +kernel) W b h
  have H3 : Hid (∀ (x y : Int) v b W, IS W v [x, y] → Bk W b #[.int .i64 x, .int .i64 y] 3 → Calls Try.prog 14 #[v, .int .i64 0, .slice (some ⟨b, 0, none⟩) 2 2] W fun e w' => e = .returned (.bool true) ∧ Below W.heap.size W w') := fun x y v b W hv hb => is_lit [x, y] v b W hv hb (by simp)
  have HB : Hid (Below w.heap.size w w) := Below.refl _ _
  go_enter Try.func15, Try.ntmps15
  go_wp2_with fail
  refine (Ht.out _ _ _ _).mono ?_
  rintro e w1 ⟨rfl, hb⟩
  replace HB : Hid (Below w.heap.size w w1) := HB.out.trans (hb.mono HB.out.size)
  clear hb
  go_wp2_with fail
  refine (Ht.out _ _ _ _).mono ?_
  rintro e w2 ⟨rfl, hb⟩
  replace HB : Hid (Below w.heap.size w w2) := HB.out.trans (hb.mono HB.out.size)
  clear hb
  go_wp2_with fail
  refine (H1.out _ _ (Bk.new _ _ _)).mono ?_
  rintro e w3 ⟨v1, rfl, HV⟩
  replace HB : Hid (Below w.heap.size w w3 ∧ OwI w.heap.size w3 v1 [6, 6]) := by
    have h1 := HB.out.alloc HB.out.size (.cells #[.int .i64 2, .int .i64 0, .int .i64 1, .int .i64 3, .int .i64 0, .int .i64 1] 27)
    exact ⟨h1.trans (HV.out.2.mono h1.size), HV.out.1.weaken h1.size⟩
  clear HV H1
  go_wp2_with fail
  refine (Ht.out _ _ _ _).mono ?_
  rintro e w4 ⟨rfl, hb⟩
  replace HB : Hid (Below w.heap.size w w4 ∧ OwI w.heap.size w4 v1 [6, 6]) := ⟨HB.out.1.trans (hb.mono HB.out.1.size), HB.out.2.below hb⟩
  clear hb
  go_wp2_with fail
  refine (Ht.out _ _ _ _).mono ?_
  rintro e w5 ⟨rfl, hb⟩
  replace HB : Hid (Below w.heap.size w w5 ∧ OwI w.heap.size w5 v1 [6, 6]) := ⟨HB.out.1.trans (hb.mono HB.out.1.size), HB.out.2.below hb⟩
  clear hb
  go_wp2_with fail
  refine (H2.out _ _ (Bk.new _ _ _)).mono ?_
  rintro e w6 ⟨v2, v3, rfl, HV⟩
  replace HB : Hid (Below w.heap.size w w6 ∧ IS w6 v1 [6, 6] ∧ IS w6 v2 [4, 4] ∧ IS w6 v3 [0, 6]) := by
    have h1 := HB.out.1.alloc HB.out.1.size (.cells #[.int .i64 1, .int .i64 0, .int .i64 1, .int .i64 1, .int .i64 0, .int .i64 1] 27)
    obtain ⟨k1, k2, _, k4⟩ := HV.out
    have h2 := ((Below.refl _ w5).alloc (Nat.le_refl _) (.cells #[.int .i64 1, .int .i64 0, .int .i64 1, .int .i64 1, .int .i64 0, .int .i64 1] 27)).trans (k4.mono (by simp))
    exact ⟨h1.trans (k4.mono h1.size), (HB.out.2.below h2).is, k1.is, k2.is⟩
  clear HV H2 Ht
  go_wp2_with fail
  refine (H3.out _ _ _ _ _ (HB.out.2.1.below ((Below.refl _ w6).alloc (Nat.le_refl _) _)) (Bk.new _ _ _)).mono ?_
  rintro e w7 ⟨rfl, hb⟩
  replace HB : Hid (Below w.heap.size w w7 ∧ IS w7 v2 [4, 4] ∧ IS w7 v3 [0, 6]) := by
    have h2 := ((Below.refl _ w6).alloc (Nat.le_refl _) (.cells #[.int .i64 6, .int .i64 6] 3)).trans (hb.mono (by simp))
    exact ⟨HB.out.1.trans (h2.mono HB.out.1.size), HB.out.2.2.1.below h2, HB.out.2.2.2.below h2⟩
  clear hb
  go_wp2_with fail
  refine (H3.out _ _ _ _ _ (HB.out.2.1.below ((Below.refl _ w7).alloc (Nat.le_refl _) _)) (Bk.new _ _ _)).mono ?_
  rintro e w8 ⟨rfl, hb⟩
  replace HB : Hid (Below w.heap.size w w8 ∧ IS w8 v3 [0, 6]) := by
    have h2 := ((Below.refl _ w7).alloc (Nat.le_refl _) (.cells #[.int .i64 4, .int .i64 4] 3)).trans (hb.mono (by simp))
    exact ⟨HB.out.1.trans (h2.mono HB.out.1.size), HB.out.2.2.below h2⟩
  clear hb
  go_wp2_with fail
  refine (H3.out _ _ _ _ _ (HB.out.2.below ((Below.refl _ w8).alloc (Nat.le_refl _) _)) (Bk.new _ _ _)).mono ?_
  rintro e w9 ⟨rfl, hb⟩
  have HF : Hid (Below w.heap.size w w9) := by
    have h2 := ((Below.refl _ w8).alloc (Nat.le_refl _) (.cells #[.int .i64 0, .int .i64 6] 3)).trans (hb.mono (by simp))
    exact HB.out.1.trans (h2.mono HB.out.1.size)
  clear hb HB H3
  go_wp2
  go_ret
  exact ⟨rfl, HF.out⟩

end Go.Proofs.Ytchjmmchflbfcaa
