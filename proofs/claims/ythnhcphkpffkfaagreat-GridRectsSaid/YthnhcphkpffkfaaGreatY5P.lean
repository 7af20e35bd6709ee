/-
  GridRects: the need and the rectangles are the document's, or the errors; what was handed in stays. The walk, and the statement GridRects: of any arguments; no condition.
-/
import Derived.Test.YthnhcphkpffkfaaGreatYT2
import Derived.Test.YthnhcphkpffkfaaGreatYY3
import Derived.Test.YthnhcphkpffkfaaGreatYN
import Derived.Test.YthnhcphkpffkfaaGreatRows
import Derived.Test.YthnhcphkpffkfaaGreatYOp
import Derived.ChangeOld
namespace Go.Proofs.YthnhcphkpffkfaaGreat
open Go.RowKit

theorem rRects_any (s : List Int) (z : List Sz) (col gap : Int) (r : Rc) (sv zv : Value) (w : World) (hs : IS w sv s) (hz : KS 2 fZ w zv z) :
    Calls Tryz.prog 11 #[sv, zv, .int .i64 col, .int .i64 gap, .agg #[.int .i64 r.x, .int .i64 r.y, .int .i64 r.w, .int .i64 r.h]] w fun e w' => ∃ u, e = .returned (.tuple #[u, .int .i64 (rcE s z col gap r)]) ∧ Hid (OwK 29 4 fR w.heap.size w' u (rcL s z col gap r) ∧ Below w.heap.size w w') := by
  cases Decidable.em (rE1 s z col gap r = 0) with
  | inl h => exact rRects_good s z col gap r sv zv w hs hz h
  | inr h => exact rRects_bad s z col gap r sv zv w hs hz h
theorem neq_rectY (a b c d : Int) (w : World) : (binOp .neq 29 (.agg #[.int .i64 a, .int .i64 b, .int .i64 c, .int .i64 d]) (.agg #[.int .i64 a, .int .i64 b, .int .i64 c, .int .i64 d])).run Tryz.prog w = .ok (.bool false) w := by
  simp [go_sem]
theorem mch_no {n : Nat} (h : mchB n = false) : n ≤ 3000 := by
  unfold mchB at h
  simp at h
  omega
theorem eq_sizeY (a b : Int) (w : World) : (binOp .eql 27 (.agg #[.int .i64 a, .int .i64 b]) (.agg #[.int .i64 a, .int .i64 b])).run Tryz.prog w = .ok (.bool true) w := by
  simp [go_sem]
theorem rcL_le (s : List Int) (z : List Sz) (c gap : Int) (r : Rc) : (rcL s z c gap r).length ≤ s.length := by
  unfold rcL
  split
  · unfold rcsG; rw [List.length_map, cel_len]; exact Nat.le_refl _
  · simp

set_option maxHeartbeats 4000000 in
theorem rects_same (A : List Rc) (a b : Value) (w : World) (ha : KS 4 fR w a A) (hb : KS 4 fR w b A) (hA : A.length ≤ 2000000) :
    Calls Tryz.prog 12 #[a, b] w fun e w' => e = .returned (.bool true) ∧ Below w.heap.size w w' := by
  obtain ⟨oa, ca, rfl, _, ga⟩ := ha
  obtain ⟨ob, cb, rfl, _, gb⟩ := hb
  have HGa : Hid (0 < A.length → ∃ g o, oa = some ⟨g, o, none⟩ ∧ g < w.heap.size ∧ ∀ i (h : i < A.length) j, j < 4 → w.cell? ⟨g, o + i * 4 + j, none⟩ = some (.int .i64 ((fR A[i]).getD j 0))) := ga
  have HGb : Hid (0 < A.length → ∃ g o, ob = some ⟨g, o, none⟩ ∧ g < w.heap.size ∧ ∀ i (h : i < A.length) j, j < 4 → w.cell? ⟨g, o + i * 4 + j, none⟩ = some (.int .i64 ((fR A[i]).getD j 0))) := gb
  clear ga gb
  go_enter Tryz.func12, Tryz.ntmps12
  go_wp2_with fail
  go_loopw [5] (fun i wr => ∃ k : Nat, k ≤ A.length ∧ i = .int .i64 k ∧ Hid (Below w.heap.size w wr)) (fun i _ => A.length - (intOf i).toNat)
  case atStart => exact ⟨0, Nat.zero_le _, rfl, Below.refl _ _⟩
  case round =>
    obtain ⟨k, hk, rfl, HK⟩ := hrel
    by_cases hlt : k < A.length
    · have ik : (k : Int) < A.length := by omega
      obtain ⟨g, o, rfl, hg, hat⟩ := HGa.out (by omega)
      obtain ⟨g2, o2, rfl, hg2, hat2⟩ := HGb.out (by omega)
      have x0 : wr.cell? ⟨g, o + k * 4, none⟩ = some (.int .i64 A[k].x) := (HK.out.cell (p := ⟨g, o + k * 4, none⟩) hg).trans (hat k hlt 0 (by omega))
      have x1 : wr.cell? ⟨g, o + k * 4 + 1, none⟩ = some (.int .i64 A[k].y) := (HK.out.cell (p := ⟨g, o + k * 4 + 1, none⟩) hg).trans (hat k hlt 1 (by omega))
      have x2 : wr.cell? ⟨g, o + k * 4 + 2, none⟩ = some (.int .i64 A[k].w) := (HK.out.cell (p := ⟨g, o + k * 4 + 2, none⟩) hg).trans (hat k hlt 2 (by omega))
      have x3 : wr.cell? ⟨g, o + k * 4 + 3, none⟩ = some (.int .i64 A[k].h) := (HK.out.cell (p := ⟨g, o + k * 4 + 3, none⟩) hg).trans (hat k hlt 3 (by omega))
      have y0 : wr.cell? ⟨g2, o2 + k * 4, none⟩ = some (.int .i64 A[k].x) := (HK.out.cell (p := ⟨g2, o2 + k * 4, none⟩) hg2).trans (hat2 k hlt 0 (by omega))
      have y1 : wr.cell? ⟨g2, o2 + k * 4 + 1, none⟩ = some (.int .i64 A[k].y) := (HK.out.cell (p := ⟨g2, o2 + k * 4 + 1, none⟩) hg2).trans (hat2 k hlt 1 (by omega))
      have y2 : wr.cell? ⟨g2, o2 + k * 4 + 2, none⟩ = some (.int .i64 A[k].w) := (HK.out.cell (p := ⟨g2, o2 + k * 4 + 2, none⟩) hg2).trans (hat2 k hlt 2 (by omega))
      have y3 : wr.cell? ⟨g2, o2 + k * 4 + 3, none⟩ = some (.int .i64 A[k].h) := (HK.out.cell (p := ⟨g2, o2 + k * 4 + 3, none⟩) hg2).trans (hat2 k hlt 3 (by omega))
      have HW : Hid (∀ m, Below w.heap.size w (wr.drewN m)) := fun m => below_drewK HK.out
      have hne := neq_rectY A[k].x A[k].y A[k].w A[k].h
      clear hat hat2 HK
      generalize A[k] = q at *
      go_wp2_with fail
      go_quiet (fail)
      go_wp2
      exact ⟨⟨k + 1, by omega, by go_num, HW.out _⟩, by simp [intOf]; omega⟩
    · obtain rfl : k = A.length := by omega
      have HF : Hid (Below w.heap.size w wr) := HK.out
      clear HK
      go_wp2
      go_ret
      exact ⟨rfl, HF.out⟩

set_option maxRecDepth 10000 in
set_option maxHeartbeats 8000000 in
theorem grects_walk (s : List Int) (z : List Sz) (col gap : Int) (r : Rc) (sv zv : Value) (w : World) (hs : IS w sv s) (hz : KS 2 fZ w zv z) (ns : NoNil sv) (nz : NoNil zv) (hrx : I64 r.x) (hry : I64 r.y) :
    Calls Tryz.prog 3 #[sv, zv, .int .i64 col, .int .i64 gap, .agg #[.int .i64 r.x, .int .i64 r.y, .int .i64 r.w, .int .i64 r.h]] w fun e w' => e = .returned (.bool true) ∧ Below w.heap.size w w' := by
  have HV0 : Hid (IS w sv s ∧ KS 2 fZ w zv z) := ⟨hs, hz⟩
  have HNN : Hid (NoNil sv ∧ NoNil zv) := ⟨ns, nz⟩
  have HAl : Hid (∀ W, Calls Tryz.prog 4 #[] W fun e w' => e = .returned (.bool true) ∧ Below W.heap.size W w') := alive_grid
  have HMu : Hid (∀ n W, Calls Tryz.prog 5 #[.int .i64 n] W fun e w' => e = .returned (.bool (mchB n)) ∧ w' = W) := fun n W => much_any n W
  obtain ⟨so, sc, rfl, _, _⟩ := hs
  obtain ⟨zo, zc, rfl, _, _⟩ := hz
  clear ns nz
  have HB0 : Hid (Below w.heap.size w (w.alloc (.cells #[.int .i64 r.x, .int .i64 r.y, .int .i64 r.w, .int .i64 r.h] 29)) ∧ Bk (w.alloc (.cells #[.int .i64 r.x, .int .i64 r.y, .int .i64 r.w, .int .i64 r.h] 29)) w.heap.size #[.int .i64 r.x, .int .i64 r.y, .int .i64 r.w, .int .i64 r.h] 29) := ⟨(Below.refl _ _).alloc (Nat.le_refl _) _, Bk.new _ _ _⟩
  generalize hm1 : mchB (s.length : Int) = m1 at *
  have HM1 : Hid (∀ W, Calls Tryz.prog 5 #[.int .i64 s.length] W fun e w' => e = .returned (.bool m1) ∧ w' = W) := fun W => by rw [← hm1]; exact HMu.out _ W
  generalize hm2 : mchB (z.length : Int) = m2 at *
  have HM2 : Hid (∀ W, Calls Tryz.prog 5 #[.int .i64 z.length] W fun e w' => e = .returned (.bool m2) ∧ w' = W) := fun W => by rw [← hm2]; exact HMu.out _ W
  clear HMu
  cases m1
  case true =>
    clear hm1 hm2
    go_enter Tryz.func3, Tryz.ntmps3
    go_wp2_with fail
    refine (HAl.out _).mono ?_
    rintro e w1 ⟨rfl, hb⟩
    have HB : Hid (Below w.heap.size w w1) := HB0.out.1.trans (hb.mono HB0.out.1.size)
    clear hb HB0
    go_wp2_with fail
    refine (HM1.out _).mono ?_
    rintro e w2 ⟨rfl, rfl⟩
    go_wp2
    go_ret
    exact ⟨rfl, HB.out⟩
  case false =>
  cases m2
  case true =>
    clear hm1 hm2
    go_enter Tryz.func3, Tryz.ntmps3
    go_wp2_with fail
    refine (HAl.out _).mono ?_
    rintro e w1 ⟨rfl, hb⟩
    have HB : Hid (Below w.heap.size w w1) := HB0.out.1.trans (hb.mono HB0.out.1.size)
    clear hb HB0
    go_wp2_with fail
    refine (HM1.out _).mono ?_
    rintro e w2 ⟨rfl, rfl⟩
    go_wp2_with fail
    refine (HM2.out _).mono ?_
    rintro e w3 ⟨rfl, rfl⟩
    go_wp2
    go_ret
    exact ⟨rfl, HB.out⟩
  case false =>
    have hl1 := mch_no hm1
    have hl2 := mch_no hm2
    have HX : Hid (∀ W, Below w.heap.size w W → Calls Tryz.prog 6 #[.slice so s.length sc] W fun e w' => ∃ g cap, e = .returned (.slice (some ⟨g, 0, none⟩) s.length cap) ∧ Hid (Mrk 3 1 fI 777 W.heap.size w' g cap s ∧ Below W.heap.size W w')) := fun W h => ints_any s _ W (HV0.out.1.below h) HNN.out.1 (by omega)
    have HY : Hid (∀ W, Below w.heap.size w W → Calls Tryz.prog 7 #[.slice zo z.length zc] W fun e w' => ∃ g cap, e = .returned (.slice (some ⟨g, 0, none⟩) z.length cap) ∧ Hid (Mrk 27 2 fZ ⟨777, 0⟩ W.heap.size w' g cap z ∧ Below W.heap.size W w')) := fun W h => sizes_any z _ W (HV0.out.2.below h) HNN.out.2 (by omega)
    obtain ⟨NZ, ne, RL, re, HE⟩ : ∃ NZ ne RL re, Hid (neZ s z col gap = NZ ∧ neE s z col gap = ne ∧ rcL s z col gap r = RL ∧ rcE s z col gap r = re) := ⟨_, _, _, _, rfl, rfl, rfl, rfl⟩
    have hRl : RL.length ≤ 3000 := by rw [← HE.out.2.2.1]; have := rcL_le s z col gap r; omega
    have A1 : Hid (∀ W v u, IS W v s → KS 2 fZ W u z → Calls Tryz.prog 8 #[v, u, .int .i64 col, .int .i64 gap] W fun e w' => e = .returned (.tuple #[.agg #[.int .i64 NZ.w, .int .i64 NZ.h], .int .i64 ne]) ∧ Hid (Below W.heap.size W w')) := fun W v u h k => by rw [← HE.out.1, ← HE.out.2.1]; exact Need_any s z col gap _ _ W h k
    have A2 : Hid (∀ W v u, IS W v s → KS 2 fZ W u z → Calls Tryz.prog 9 #[v, u, .int .i64 col, .int .i64 gap, .agg #[.int .i64 r.x, .int .i64 r.y, .int .i64 r.w, .int .i64 r.h]] W fun e w' => ∃ u, e = .returned (.tuple #[u, .int .i64 re]) ∧ Hid (OwK 29 4 fR W.heap.size w' u RL ∧ Below W.heap.size W w')) := fun W v u h k => by rw [← HE.out.2.2.1, ← HE.out.2.2.2]; exact Rects_any s z col gap r _ _ W h k hrx hry
    have B1 : Hid (∀ W v u, IS W v s → KS 2 fZ W u z → Calls Tryz.prog 10 #[v, u, .int .i64 col, .int .i64 gap] W fun e w' => e = .returned (.tuple #[.agg #[.int .i64 NZ.w, .int .i64 NZ.h], .int .i64 ne]) ∧ Hid (Below W.heap.size W w')) := fun W v u h k => by rw [← HE.out.1, ← HE.out.2.1]; exact rNeed_grid s z col gap _ _ W h k
    have B2 : Hid (∀ W v u, IS W v s → KS 2 fZ W u z → Calls Tryz.prog 11 #[v, u, .int .i64 col, .int .i64 gap, .agg #[.int .i64 r.x, .int .i64 r.y, .int .i64 r.w, .int .i64 r.h]] W fun e w' => ∃ u, e = .returned (.tuple #[u, .int .i64 re]) ∧ Hid (OwK 29 4 fR W.heap.size w' u RL ∧ Below W.heap.size W w')) := fun W v u h k => by rw [← HE.out.2.2.1, ← HE.out.2.2.2]; exact rRects_any s z col gap r _ _ W h k
    have D1 : Hid (∀ W v u, KS 4 fR W v RL → KS 4 fR W u RL → Calls Tryz.prog 12 #[v, u] W fun e w' => e = .returned (.bool true) ∧ Below W.heap.size W w') := fun W v u h k => rects_same RL v u W h k (by omega)
    have D4 : Hid (∀ W lo g cap v, Mrk 3 1 fI 777 lo W g cap s → IS W v s → Calls Tryz.prog 13 #[.slice (some ⟨g, 0, none⟩) s.length cap, v] W fun e w' => e = .returned (.bool true) ∧ Below W.heap.size W w') := fun W lo g cap v h k => keptInts_any lo g cap s v W h k (by omega)
    have D5 : Hid (∀ W lo g cap v, Mrk 27 2 fZ ⟨777, 0⟩ lo W g cap z → KS 2 fZ W v z → Calls Tryz.prog 14 #[.slice (some ⟨g, 0, none⟩) z.length cap, v] W fun e w' => e = .returned (.bool true) ∧ Below W.heap.size W w') := fun W lo g cap v h k => keptSizes_any lo g cap z v W h k (by omega)
    obtain ⟨rx, ry, rw', rh⟩ := r
    simp only at *
    clear HE hm1 hm2 HNN hl1 hl2 hRl
    go_enter Tryz.func3, Tryz.ntmps3
    go_wp2_with fail
    refine (HAl.out _).mono ?_
    rintro e w1 ⟨rfl, hb⟩
    obtain ⟨bb, Hbb⟩ : ∃ bb, Hid (bb = w.heap.size) := ⟨_, rfl⟩
    have F1 : Hid (Below w.heap.size w w1 ∧ Bk w1 bb #[.int .i64 rx, .int .i64 ry, .int .i64 rw', .int .i64 rh] 29) := by rw [Hbb.out]; exact ⟨HB0.out.1.trans (hb.mono HB0.out.1.size), HB0.out.2.below hb⟩
    rw [← Hbb.out]
    clear hb HAl HB0 Hbb
    go_wp2_with fail
    refine (HM1.out _).mono ?_
    rintro e _ ⟨rfl, rfl⟩
    go_wp2_with fail
    refine (HM2.out _).mono ?_
    rintro e w1 ⟨rfl, rfl⟩
    clear HM1 HM2
    go_wp2_with fail
    refine (HX.out _ F1.out.1).mono ?_
    rintro e w2 ⟨gx, cx, rfl, HV⟩
    have F2 : Hid (Below w.heap.size w w2 ∧ Bk w2 bb #[.int .i64 rx, .int .i64 ry, .int .i64 rw', .int .i64 rh] 29 ∧ Mrk 3 1 fI 777 w1.heap.size w2 gx cx s) := ⟨F1.out.1.trans (HV.out.2.mono F1.out.1.size), F1.out.2.below HV.out.2, HV.out.1⟩
    clear HV HX F1
    go_wp2_with fail
    refine (HY.out _ F2.out.1).mono ?_
    rintro e w3 ⟨gy, cy, rfl, HV⟩
    have F3 : Hid (Below w.heap.size w w3 ∧ Bk w3 bb #[.int .i64 rx, .int .i64 ry, .int .i64 rw', .int .i64 rh] 29 ∧ Mrk 3 1 fI 777 w1.heap.size w3 gx cx s ∧ Mrk 27 2 fZ ⟨777, 0⟩ w2.heap.size w3 gy cy z) := ⟨F2.out.1.trans (HV.out.2.mono F2.out.1.size), F2.out.2.1.below HV.out.2, F2.out.2.2.below HV.out.2, HV.out.1⟩
    clear HV HY F2
    go_wp2_with fail
    refine (A1.out _ _ _ (F3.out.2.2.1.ks encI).is (F3.out.2.2.2.ks encZ)).mono ?_
    rintro e w4 ⟨rfl, HV⟩
    have F4 : Hid (Below w.heap.size w w4 ∧ Bk w4 bb #[.int .i64 rx, .int .i64 ry, .int .i64 rw', .int .i64 rh] 29 ∧ Mrk 3 1 fI 777 w1.heap.size w4 gx cx s ∧ Mrk 27 2 fZ ⟨777, 0⟩ w2.heap.size w4 gy cy z) := ⟨F3.out.1.trans (HV.out.mono F3.out.1.size), F3.out.2.1.below HV.out, F3.out.2.2.1.below HV.out, F3.out.2.2.2.below HV.out⟩
    clear HV F3 A1
    have B5 : Below w4.heap.size w4 (w4.alloc (.cells #[.int .i64 NZ.w, .int .i64 NZ.h] 27)) := (Below.refl _ _).alloc (Nat.le_refl _) _
    have F5 : Hid (Below w.heap.size w (w4.alloc (.cells #[.int .i64 NZ.w, .int .i64 NZ.h] 27)) ∧ Bk (w4.alloc (.cells #[.int .i64 NZ.w, .int .i64 NZ.h] 27)) bb #[.int .i64 rx, .int .i64 ry, .int .i64 rw', .int .i64 rh] 29 ∧ Mrk 3 1 fI 777 w1.heap.size (w4.alloc (.cells #[.int .i64 NZ.w, .int .i64 NZ.h] 27)) gx cx s ∧ Mrk 27 2 fZ ⟨777, 0⟩ w2.heap.size (w4.alloc (.cells #[.int .i64 NZ.w, .int .i64 NZ.h] 27)) gy cy z ∧ Bk (w4.alloc (.cells #[.int .i64 NZ.w, .int .i64 NZ.h] 27)) w4.heap.size #[.int .i64 NZ.w, .int .i64 NZ.h] 27) := ⟨F4.out.1.trans (B5.mono F4.out.1.size), F4.out.2.1.below B5, F4.out.2.2.1.below B5, F4.out.2.2.2.below B5, Bk.new _ _ _⟩
    have r0 : w4.cell? ⟨bb, 0, none⟩ = some (.int .i64 rx) := by rw [F4.out.2.1.cell]; rfl
    have r1 : w4.cell? ⟨bb, 1, none⟩ = some (.int .i64 ry) := by rw [F4.out.2.1.cell]; rfl
    have r2 : w4.cell? ⟨bb, 2, none⟩ = some (.int .i64 rw') := by rw [F4.out.2.1.cell]; rfl
    have r3 : w4.cell? ⟨bb, 3, none⟩ = some (.int .i64 rh) := by rw [F4.out.2.1.cell]; rfl
    have lbb := F4.out.2.1.lt
    clear B5
    go_wp2_with fail
    refine (A2.out _ _ _ (F5.out.2.2.1.ks encI).is (F5.out.2.2.2.1.ks encZ)).mono ?_
    rintro e w5 ⟨lv, rfl, HV⟩
    obtain ⟨nb, Hnb⟩ : ∃ nb, Hid (nb = w4.heap.size) := ⟨_, rfl⟩
    have F6 : Hid (Below w.heap.size w w5 ∧ Bk w5 bb #[.int .i64 rx, .int .i64 ry, .int .i64 rw', .int .i64 rh] 29 ∧ Mrk 3 1 fI 777 w1.heap.size w5 gx cx s ∧ Mrk 27 2 fZ ⟨777, 0⟩ w2.heap.size w5 gy cy z ∧ Bk w5 nb #[.int .i64 NZ.w, .int .i64 NZ.h] 27 ∧ KS 4 fR w5 lv RL) := by rw [Hnb.out]; exact ⟨F5.out.1.trans (HV.out.2.mono F5.out.1.size), F5.out.2.1.below HV.out.2, F5.out.2.2.1.below HV.out.2, F5.out.2.2.2.1.below HV.out.2, F5.out.2.2.2.2.below HV.out.2, HV.out.1.ks encR⟩
    rw [← Hnb.out]
    clear HV F4 F5 A2 Hnb r0 r1 r2 r3 lbb
    go_wp2_with fail
    refine (B1.out _ _ _ (HV0.out.1.below F6.out.1) (HV0.out.2.below F6.out.1)).mono ?_
    rintro e w6 ⟨rfl, HV⟩
    have F7 : Hid (Below w.heap.size w w6 ∧ Bk w6 bb #[.int .i64 rx, .int .i64 ry, .int .i64 rw', .int .i64 rh] 29 ∧ Mrk 3 1 fI 777 w1.heap.size w6 gx cx s ∧ Mrk 27 2 fZ ⟨777, 0⟩ w2.heap.size w6 gy cy z ∧ Bk w6 nb #[.int .i64 NZ.w, .int .i64 NZ.h] 27 ∧ KS 4 fR w6 lv RL) := ⟨F6.out.1.trans (HV.out.mono F6.out.1.size), F6.out.2.1.below HV.out, F6.out.2.2.1.below HV.out, F6.out.2.2.2.1.below HV.out, F6.out.2.2.2.2.1.below HV.out, F6.out.2.2.2.2.2.below HV.out⟩
    clear HV F6 B1
    have B5 : Below w6.heap.size w6 (w6.alloc (.cells #[.int .i64 NZ.w, .int .i64 NZ.h] 27)) := (Below.refl _ _).alloc (Nat.le_refl _) _
    have F8 : Hid (Below w.heap.size w (w6.alloc (.cells #[.int .i64 NZ.w, .int .i64 NZ.h] 27)) ∧ Mrk 3 1 fI 777 w1.heap.size (w6.alloc (.cells #[.int .i64 NZ.w, .int .i64 NZ.h] 27)) gx cx s ∧ Mrk 27 2 fZ ⟨777, 0⟩ w2.heap.size (w6.alloc (.cells #[.int .i64 NZ.w, .int .i64 NZ.h] 27)) gy cy z ∧ Bk (w6.alloc (.cells #[.int .i64 NZ.w, .int .i64 NZ.h] 27)) nb #[.int .i64 NZ.w, .int .i64 NZ.h] 27 ∧ KS 4 fR (w6.alloc (.cells #[.int .i64 NZ.w, .int .i64 NZ.h] 27)) lv RL ∧ Bk (w6.alloc (.cells #[.int .i64 NZ.w, .int .i64 NZ.h] 27)) w6.heap.size #[.int .i64 NZ.w, .int .i64 NZ.h] 27) := ⟨F7.out.1.trans (B5.mono F7.out.1.size), F7.out.2.2.1.below B5, F7.out.2.2.2.1.below B5, F7.out.2.2.2.2.1.below B5, F7.out.2.2.2.2.2.below B5, Bk.new _ _ _⟩
    have r0 : w6.cell? ⟨bb, 0, none⟩ = some (.int .i64 rx) := by rw [F7.out.2.1.cell]; rfl
    have r1 : w6.cell? ⟨bb, 1, none⟩ = some (.int .i64 ry) := by rw [F7.out.2.1.cell]; rfl
    have r2 : w6.cell? ⟨bb, 2, none⟩ = some (.int .i64 rw') := by rw [F7.out.2.1.cell]; rfl
    have r3 : w6.cell? ⟨bb, 3, none⟩ = some (.int .i64 rh) := by rw [F7.out.2.1.cell]; rfl
    have lbb := F7.out.2.1.lt
    clear B5
    go_wp2_with fail
    refine (B2.out _ _ _ (HV0.out.1.below F8.out.1) (HV0.out.2.below F8.out.1)).mono ?_
    rintro e w7 ⟨mv, rfl, HV⟩
    obtain ⟨mb, Hnb⟩ : ∃ mb, Hid (mb = w6.heap.size) := ⟨_, rfl⟩
    have F9 : Hid (Below w.heap.size w w7 ∧ Mrk 3 1 fI 777 w1.heap.size w7 gx cx s ∧ Mrk 27 2 fZ ⟨777, 0⟩ w2.heap.size w7 gy cy z ∧ Bk w7 nb #[.int .i64 NZ.w, .int .i64 NZ.h] 27 ∧ KS 4 fR w7 lv RL ∧ Bk w7 mb #[.int .i64 NZ.w, .int .i64 NZ.h] 27 ∧ KS 4 fR w7 mv RL) := by rw [Hnb.out]; exact ⟨F8.out.1.trans (HV.out.2.mono F8.out.1.size), F8.out.2.1.below HV.out.2, F8.out.2.2.1.below HV.out.2, F8.out.2.2.2.1.below HV.out.2, F8.out.2.2.2.2.1.below HV.out.2, F8.out.2.2.2.2.2.below HV.out.2, HV.out.1.ks encR⟩
    rw [← Hnb.out]
    clear HV F7 F8 B2 Hnb r0 r1 r2 r3 lbb
    have n0 : w7.cell? ⟨nb, 0, none⟩ = some (.int .i64 NZ.w) := by rw [F9.out.2.2.2.1.cell]; rfl
    have n1 : w7.cell? ⟨nb, 1, none⟩ = some (.int .i64 NZ.h) := by rw [F9.out.2.2.2.1.cell]; rfl
    have n2 : w7.cell? ⟨mb, 0, none⟩ = some (.int .i64 NZ.w) := by rw [F9.out.2.2.2.2.2.1.cell]; rfl
    have n3 : w7.cell? ⟨mb, 1, none⟩ = some (.int .i64 NZ.h) := by rw [F9.out.2.2.2.2.2.1.cell]; rfl
    have hq := eq_sizeY NZ.w NZ.h
    go_wp2_with fail
    refine (D1.out _ _ _ F9.out.2.2.2.2.1 F9.out.2.2.2.2.2.2).mono ?_
    rintro e w8 ⟨rfl, hb⟩
    have FA : Hid (Below w.heap.size w w8 ∧ Mrk 3 1 fI 777 w1.heap.size w8 gx cx s ∧ Mrk 27 2 fZ ⟨777, 0⟩ w2.heap.size w8 gy cy z) := ⟨F9.out.1.trans (hb.mono F9.out.1.size), F9.out.2.1.below hb, F9.out.2.2.1.below hb⟩
    clear hb F9 n0 n1 n2 n3 D1
    go_wp2_with fail
    refine (D4.out _ _ _ _ _ FA.out.2.1 (HV0.out.1.below FA.out.1)).mono ?_
    rintro e w9 ⟨rfl, hb⟩
    have FB : Hid (Below w.heap.size w w9 ∧ Mrk 27 2 fZ ⟨777, 0⟩ w2.heap.size w9 gy cy z) := ⟨FA.out.1.trans (hb.mono FA.out.1.size), FA.out.2.2.below hb⟩
    clear hb FA D4
    go_wp2_with fail
    refine (D5.out _ _ _ _ _ FB.out.2 (HV0.out.2.below FB.out.1)).mono ?_
    rintro e wa ⟨rfl, hb⟩
    have FC : Hid (Below w.heap.size w wa) := FB.out.1.trans (hb.mono FB.out.1.size)
    clear hb FB D5
    go_wp2
    go_ret
    exact ⟨rfl, FC.out⟩

end Go.Proofs.YthnhcphkpffkfaaGreat

namespace Go.Proofs.YthnhcphkpffkfaaGreat
open Go.ChangeShapes Go.WideShapes Go.ChangeAt Go.RowKit Go.Joins

set_option maxRecDepth 100000 in
theorem gridRects_lifted (os : Os) (started : os.Started) (H : Type) (enc : TypeId × Value → H) :
    ReturnsInHanded {} Tryz.checked os 3 .any (Rows.gridRectsSpec.pre6 enc Tryz.prog Tryz.f3 Rows.gridRectsRow.domain false) (Rows.gridRectsSpec.post enc Tryz.prog Tryz.f3 false true false false) := by
  refine returnsInHanded_of_change (C := Tryz.checked) own started (by kernel_rfl) Tryz.func3
    (ChangeSpec.witness6 (enc := enc) (C := Tryz.checked) false ⟨#[], #[.slice none 0 0, .slice none 0 0, .int .i64 0, .int .i64 0, .agg #[.int .i64 0, .int .i64 0, .int .i64 0, .int .i64 0]], []⟩ 8 (by kernel_rfl) (by kernel_rfl) (by kernel_rfl) (by kernel_rfl)) ?_
  intro W base args ds gs before hval0 hW _ _
  have hval : ∀ (j : Nat) t v, Tryz.f3.params[j]? = some t → args[j]? = some v → Value.okWide Tryz.prog W .any base t v := hval0
  have hW' := hW
  obtain ⟨p, q, hA0, hV, rfl, _, _⟩ := hW
  have hA : DataW.TrodAll enc Tryz.prog W 0 (fun _ => true) true Tryz.f3.params.toList args.toList ds p := hA0
  rw [Tryz.params3] at hA hval
  obtain ⟨v0, vs0, d0, ds0, p0, q0, hargs, rfl, rfl, h0, r0⟩ := trodAll_cons hA
  obtain ⟨v1, vs1, d1, ds1, p1, q1, rfl, rfl, rfl, h1, r1⟩ := trodAll_cons r0
  obtain ⟨v2, vs2, d2, ds2, p2, q2, rfl, rfl, rfl, h2, r2⟩ := trodAll_cons r1
  obtain ⟨v3, vs3, d3, ds3, p3, q3, rfl, rfl, rfl, h3, r3⟩ := trodAll_cons r2
  obtain ⟨v4, vs4, d4, ds4, p4, q4, rfl, rfl, rfl, h4, r4⟩ := trodAll_cons r3
  obtain ⟨rfl, rfl, rfl⟩ := trodAll_nil r4
  obtain rfl : args = #[v0, v1, v2, v3, v4] := by cases args; simp_all
  obtain ⟨rfl, rfl⟩ := trodVars_none hV
  have k0 := h0
  have lt0 : ∀ x ∈ p0, x.block < W.heap.size := by obtain ⟨m, hm⟩ := k0; exact DataW.trod_lt m _ _ _ hm
  have k1 := h1
  have lt1 : ∀ x ∈ p1, x.block < W.heap.size := by obtain ⟨m, hm⟩ := k1; exact DataW.trod_lt m _ _ _ hm
  have k2 := h2
  have lt2 : ∀ x ∈ p2, x.block < W.heap.size := by obtain ⟨m, hm⟩ := k2; exact DataW.trod_lt m _ _ _ hm
  have k3 := h3
  have lt3 : ∀ x ∈ p3, x.block < W.heap.size := by obtain ⟨m, hm⟩ := k3; exact DataW.trod_lt m _ _ _ hm
  have k4 := h4
  have lt4 : ∀ x ∈ p4, x.block < W.heap.size := by obtain ⟨m, hm⟩ := k4; exact DataW.trod_lt m _ _ _ hm
  obtain ⟨xs0, b0, nn0, lb0, lu0, wi0⟩ := open_numbers (hval 0 22 v0 rfl rfl) h0
  obtain ⟨z1, b1, nn1, lb1, lu1⟩ := open_sizes (hval 1 23 v1 rfl rfl) h1
  obtain ⟨x2, e2, _, _, wx2⟩ := open_int Tryz.underlying3 (hval 2 3 v2 rfl rfl) h2
  subst e2
  obtain ⟨x3, e3, _, _, wx3⟩ := open_int Tryz.underlying3 (hval 3 3 v3 rfl rfl) h3
  subst e3
  obtain ⟨rx4, ry4, rw4, rh4, e4, ix4, iy4, _, _⟩ := open_rect (hval 4 29 v4 rfl rfl) h4
  subst e4
  refine (grects_walk xs0 z1 x2 x3 ⟨rx4, ry4, rw4, rh4⟩ v0 v1 W b0 b1 nn0 nn1 ix4 iy4).mono fun e W' ⟨he, bel⟩ => ?_
  subst he
  exact ⟨_, rfl, _, _, _, [], _, [], hW', trodAll_mk1 (shut_bool Tryz.underlying4 _), (trodAll_cons_mk (Below.trod laidOut (by kernel_rfl) (of_decide_eq_true (by kernel_rfl)) k0 bel lt0) (trodAll_cons_mk (Below.trod laidOut (by kernel_rfl) (of_decide_eq_true (by kernel_rfl)) k1 bel lt1) (trodAll_cons_mk (Below.trod laidOut (by kernel_rfl) (of_decide_eq_true (by kernel_rfl)) k2 bel lt2) (trodAll_cons_mk (Below.trod laidOut (by kernel_rfl) (of_decide_eq_true (by kernel_rfl)) k3 bel lt3) (trodAll_cons_mk (Below.trod laidOut (by kernel_rfl) (of_decide_eq_true (by kernel_rfl)) k4 bel lt4) trodAll_mk0))))), rfl, bel.frame _, fun h => by cases h⟩

theorem gridRects_holds : Rows.GridRectsSaid :=
  OpenClaim.holds_of_wide 3 Tryz.f3 rfl rfl rfl rfl rfl rfl rfl ⟨rfl, rfl, rfl, rfl, rfl⟩ rfl rfl rfl rfl rfl (by kernel_rfl) Tryz.func3 (by kernel_rfl)
    (of_decide_eq_true (by kernel_rfl)) (by unfold Func.isWrapper; first | (rw [if_pos (by decide +kernel)]; kernel_rfl) | (rw [if_neg (by decide +kernel)]; exact ⟨rfl, rfl⟩))
    (fun os started H enc _ => gridRects_lifted os started H enc)

#print axioms gridRects_holds
end Go.Proofs.YthnhcphkpffkfaaGreat
