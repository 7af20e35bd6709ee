/-
  The walk of LeastBelow.
-/
import Derived.Test.YtjamkbhplejolaaLBq
import Derived.Deep.CutBlock
import Derived.Deep.DeepCutAuto
namespace Go.Proofs.Ytjamkbhplejolaa
open Go.RowKit

/-- Cells of a list of numbers that lay there ahead. -/
def Ci (w : World) (ov : Option Addr) (m : Nat) (f : Nat → Int) : Prop := 0 < m → ∃ g o, ov = some ⟨g, o, none⟩ ∧ g < w.heap.size ∧ ∀ i, i < m → w.cell? ⟨g, o + i, none⟩ = some (.int .i64 (f i))
theorem Ci.below {w w' : World} {ov : Option Addr} {m : Nat} {f : Nat → Int} (h : Ci w ov m f) (hb : Below w.heap.size w w') : Ci w' ov m f := fun hp => by
  obtain ⟨g, o, e, h1, h2⟩ := h hp
  exact ⟨g, o, e, Nat.lt_of_lt_of_le h1 hb.size, fun i hi => (hb.cell (p := ⟨g, o + i, none⟩) h1).trans (h2 i hi)⟩
/-- The tight bounds, each with its bound in memory. -/
def Ti (w : World) (oa : Option Addr) (M N mt : Nat) (T : List Nat) (tl : List Int) (NL : List Bn) : Prop := ∀ j, j < mt → ∃ (k A B g o : Nat) (f : Int), T[j]? = some k ∧ atF tl j = k ∧ k < M ∧ B < N ∧ NL[k]? = some ⟨A, B, f⟩ ∧ oa = some ⟨g, o, none⟩ ∧ g < w.heap.size ∧ BqAt w g (o + k * 3) ⟨(A : Int), (B : Int), f⟩
theorem Ti.below {w w' : World} {oa : Option Addr} {M N mt : Nat} {T : List Nat} {tl : List Int} {NL : List Bn} (h : Ti w oa M N mt T tl NL) (hb : Below w.heap.size w w') : Ti w' oa M N mt T tl NL := fun j hj => by
  obtain ⟨k, A, B, g, o, f, h1, h2, h3, h4, h5, h6, h7, h8⟩ := h j hj
  exact ⟨k, A, B, g, o, f, h1, h2, h3, h4, h5, h6, Nat.lt_of_lt_of_le h7 hb.size, h8.below hb h7⟩

set_option maxRecDepth 10000 in
set_option maxHeartbeats 16000000 in
theorem below_core (N M mx mt my : Nat) (ee em kn ke most : Int) (f0 fB uB : Bool) (xs xl tl yl : List Int) (T : List Nat) (NL : List Bn) (w : World) (ou oa : Option Addr) (cu cap : Nat)
    (hN : N ≤ 200) (hM : M ≤ 400)
    (HU : Hid (Ci w ou N (atF xs) ∧ N = xs.length))
    (HA : Hid (Calls Try.prog 9 #[] w fun e w' => e = .returned (.bool true) ∧ Below w.heap.size w w'))
    (HS : Hid (∀ W, Below w.heap.size w W → Calls Try.prog 12 #[.int .i64 N, .slice oa M cap] W fun e w' => Sl W w' xl mx ee e))
    (HT : Hid (∀ W, Below w.heap.size w W → Calls Try.prog 16 #[.int .i64 N, .slice oa M cap] W fun e w' => Sl W w' tl mt ee e))
    (HM : Hid (∀ W, Below w.heap.size w W → Calls Try.prog 23 #[.int .i64 N, .slice oa M cap, .int .i64 most] W fun e w' => Sl W w' yl my em e))
    (HK : Hid (∀ W, Below w.heap.size w W → Calls Try.prog 21 #[.slice ou N cu, .slice oa M cap] W fun e w' => e = .returned (.tuple #[.int .i64 kn, .int .i64 ke]) ∧ Below W.heap.size W w'))
    (HKx : Hid (ee = 0 → ∀ W y, Below w.heap.size w W → IS W y xl → Calls Try.prog 21 #[y, .slice oa M cap] W fun e w' => e = .returned (.tuple #[.int .i64 (-1), .int .i64 0]) ∧ Below W.heap.size W w'))
    (HKy : Hid (ee = 0 → em = 0 → ∀ W y, Below w.heap.size w W → IS W y yl → Calls Try.prog 21 #[y, .slice oa M cap] W fun e w' => e = .returned (.tuple #[.int .i64 (-1), .int .i64 0]) ∧ Below W.heap.size W w'))
    (HE : Hid (ee ≠ 0 → mx = 0 ∧ em ≠ 0 ∧ (ee = 90 → fB = false)))
    (HZ : Hid (ee = 0 → mx = N ∧ mt ≤ 400 ∧ (∀ i, i < N → 0 ≤ atF xl i ∧ (0 < atF xl i → hdB NL T mt i = true) ∧ (fB = true → atF xl i ≤ atF xs i)) ∧ (∀ j, j + 1 < mt → atF tl j < atF tl (j + 1)) ∧ Ti w oa M N mt T tl NL))
    (HM0 : Hid (ee = 0 → em ≠ 0 → my = 0 ∧ (em = 90 → uB = false)))
    (HM1 : Hid (ee = 0 → em = 0 → my = N ∧ ∀ i, i < N → atF yl i ≤ most ∧ atF xl i ≤ atF yl i ∧ (uB = true → atF xs i ≤ atF yl i)))
    (Hf0 : Hid (f0 = (decide (ke = 0) && decide (kn = -1))))
    (HfB : Hid (fB = (f0 && xs.all geB)))
    (HuB : Hid (uB = (fB && xs.all fun x => decide (x ≤ most)))) :
    Calls Try.prog 5 #[.slice ou N cu, .slice oa M cap, .int .i64 most] w fun e w' => e = .returned (.bool true) ∧ Below w.heap.size w w' := by
  have i1 : ¬ (200 : Int) < N := by omega
  have i2 : ¬ (400 : Int) < M := by omega
  have ie : (ee != ee) = false := by simp
  go_enter Try.func5, Try.ntmps5
  go_wp2_with fail
  refine HA.out.mono ?_
  rintro e w1 ⟨rfl, hb1⟩
  have F1 : Hid (Below w.heap.size w w1) := hb1
  clear hb1 HA
  go_wp2_with fail
  refine (HS.out _ F1.out).mono ?_
  rintro e w2 ⟨ox, cx, rfl, H2⟩
  have F2 : Hid (Below w.heap.size w w2) := bel_tr F1.out H2.out.1
  have X2 : Hid (IS w2 (.slice ox mx cx) xl ∧ Ci w2 ox mx (atF xl)) := H2.out.2
  clear H2 HS F1
  go_wp2_with fail
  refine (HT.out _ F2.out).mono ?_
  rintro e w3 ⟨ot, ct, rfl, H3⟩
  have F3 : Hid (Below w.heap.size w w3) := bel_tr F2.out H3.out.1
  have X3 : Hid (IS w3 (.slice ox mx cx) xl ∧ Ci w3 ox mx (atF xl) ∧ Ci w3 ot mt (atF tl)) := ⟨X2.out.1.below H3.out.1, X2.out.2.below H3.out.1, H3.out.2.2⟩
  clear H3 HT F2 X2
  go_wp2_with fail
  refine (HM.out _ F3.out).mono ?_
  rintro e w4 ⟨oy, cy, rfl, H4⟩
  have F4 : Hid (Below w.heap.size w w4) := bel_tr F3.out H4.out.1
  have X4 : Hid (IS w4 (.slice ox mx cx) xl ∧ Ci w4 ox mx (atF xl) ∧ Ci w4 ot mt (atF tl) ∧ IS w4 (.slice oy my cy) yl ∧ Ci w4 oy my (atF yl)) := ⟨X3.out.1.below H4.out.1, X3.out.2.1.below H4.out.1, X3.out.2.2.below H4.out.1, H4.out.2⟩
  clear H4 HM F3 X3
  go_wp2_with fail
  refine (HK.out _ F4.out).mono ?_
  rintro e w5 ⟨rfl, hb5⟩
  have F5 : Hid (Below w.heap.size w w5) := bel_tr F4.out hb5
  have X5 : Hid (IS w5 (.slice ox mx cx) xl ∧ Ci w5 ox mx (atF xl) ∧ Ci w5 ot mt (atF tl) ∧ IS w5 (.slice oy my cy) yl ∧ Ci w5 oy my (atF yl) ∧ Ci w5 ou N (atF xs)) := ⟨X4.out.1.below hb5, X4.out.2.1.below hb5, X4.out.2.2.1.below hb5, X4.out.2.2.2.1.below hb5, X4.out.2.2.2.2.below hb5, HU.out.1.below F5.out⟩
  clear hb5 F4 X4 HK
  go_upto_region 13 with fail
  generalize decide ((200 : Int) < (N : Int)) = dA
  generalize decide ((400 : Int) < (M : Int)) = dB
  go_cut [17] (fun s17 wx => s17 = .bool f0 ∧ wx = w5)
  case first =>
    by_cases k1 : ke = 0
    · by_cases k2 : kn = -1
      · have E : Hid (f0 = true) := by show f0 = true; rw [Hf0.out, decide_eq_true k1, decide_eq_true k2]; rfl
        go_wp2_with fail
        go_meet
        exact ⟨by rw [E.out], rfl⟩
      · have E : Hid (f0 = false) := by show f0 = false; rw [Hf0.out, decide_eq_false k2, Bool.and_false]
        go_wp2_with fail
        go_meet
        exact ⟨by rw [E.out]; simp [k2], rfl⟩
    · have E : Hid (f0 = false) := by show f0 = false; rw [Hf0.out, decide_eq_false k1]; rfl
      go_wp2_with fail
      go_meet
      exact ⟨by rw [E.out], rfl⟩
  case rest =>
  obtain ⟨rfl, rfl⟩ := hcut
  go_step
  go_upto_block 0 with fail
  go_cut [17, 18] (fun s17 s18 wx => s17 = .bool fB ∧ wx = wc)
  case first =>
    go_wp2_with fail
    go_loopw [17, 18] (fun s17 i wr => ∃ (j : Nat) (b : Bool), i = .int .i64 j ∧ s17 = .bool b ∧ j ≤ N ∧ wr = wc ∧ Hid (b = (f0 && (xs.take j).all geB))) (fun _ i _ => N - (intOf i).toNat)
    case atStart => exact ⟨0, f0, rfl, rfl, Nat.zero_le _, rfl, by unfold Hid; simp⟩
    case round =>
      obtain ⟨j, b, rfl, rfl, hj, rfl, HQ⟩ := hrel
      by_cases hlt : j < N
      · have ij : (j : Int) < N := by omega
        cases b
        · have E : Hid (fB = false) := by
            show fB = false
            rw [HfB.out]
            cases c : f0 with
            | false => rfl
            | true =>
              have := HQ.out
              rw [c, Bool.true_and] at this
              rw [Bool.true_and]
              cases d : xs.all geB with
              | false => rfl
              | true =>
                have h2 : (xs.take j).all geB = true := List.all_eq_true.2 fun x hx => List.all_eq_true.1 d x (List.mem_of_mem_take hx)
                rw [h2] at this
                exact absurd this (by simp)
          go_wp2_with fail
          go_meet
          exact ⟨by rw [E.out], rfl⟩
        · obtain ⟨g, o, rfl, hg, hat⟩ := X5.out.2.2.2.2.2 (by omega)
          have c1 := hat j hlt
          obtain ⟨z, Hz⟩ : ∃ z, Hid (z = atF xs j) := ⟨_, by unfold Hid; rfl⟩
          rw [← Hz.out] at c1
          have HR : Hid (decide (0 ≤ z) = (f0 && (xs.take (j + 1)).all geB)) := by
            show decide (0 ≤ z) = (f0 && (xs.take (j + 1)).all geB)
            have hjl : j < xs.length := by rw [← HU.out.2]; exact hlt
            have h1 := HQ.out
            have hz2 : z = xs[j] := by rw [Hz.out]; simp [atF, hjl]
            rw [← List.take_append_getElem hjl, List.all_append, ← Bool.and_assoc, ← h1]
            simp [geB, hz2]
          clear hat
          go_wp2_with fail
          exact ⟨⟨j + 1, _, by go_num, rfl, by omega, trivial, HR⟩, by simp [intOf]; omega⟩
      · obtain rfl : j = N := by omega
        have E : Hid (fB = b) := by
          show fB = b
          rw [HfB.out, HQ.out, List.take_of_length_le (by rw [HU.out.2]; exact Nat.le_refl _)]
        go_wp2_with fail
        go_meet
        exact ⟨by rw [E.out], rfl⟩
  case rest =>
  obtain ⟨rfl, rfl⟩ := hcut
  by_cases he : ee = 0
  · subst he
    obtain ⟨rfl, hmt, hxx, htt, hti⟩ := HZ.out rfl
    have HX : Hid (∀ i, i < mx → 0 ≤ atF xl i ∧ (0 < atF xl i → hdB NL T mt i = true) ∧ (fB = true → atF xl i ≤ atF xs i)) := hxx
    have HTt : Hid (∀ j, j + 1 < mt → atF tl j < atF tl (j + 1)) := htt
    have HTi : Hid (Ti wc oa M mx mt T tl NL) := hti.below F5.out
    clear hxx htt hti HZ HE
    obtain ⟨arr, ha, hmk⟩ := make_bools mx (by omega) wc
    have HB : Hid (arr.size = mx ∧ (∀ i, i < mx → arr[i]? = some (.bool (hdB NL T 0 i))) ∧ Bk (wc.alloc (.cells arr 4)) wc.heap.size arr 4 ∧ Below wc.heap.size wc (wc.alloc (.cells arr 4))) := ⟨ha.1, ha.2, Bk.new _ _ _, bel_al _ _⟩
    clear ha
    go_step
    go_wp2_with fail
    generalize wc.alloc (.cells arr 4) = W6 at *
    obtain ⟨mb, Hmb⟩ : ∃ mb, Hid (mb = wc.heap.size) := ⟨wc.heap.size, by unfold Hid; rfl⟩
    rw [← Hmb.out]
    rw [← Hmb.out] at HB
    clear hmk
    go_loopw [20] (fun i wr => ∃ j : Nat, i = .int .i64 j ∧ j ≤ mt ∧ ∃ vs : Array Value, Hid (vs.size = mx ∧ (∀ i, i < mx → vs[i]? = some (.bool (hdB NL T j i))) ∧ Bk wr mb vs 4 ∧ Below mb wc wr)) (fun i _ => mt - (intOf i).toNat)
    case atStart => exact ⟨0, rfl, Nat.zero_le _, arr, HB⟩
    case round =>
      obtain ⟨j, rfl, hj, vs, HQ⟩ := hrel
      clear HB
      by_cases hlt : j < mt
      · have ij : (j : Int) < mt := by omega
        obtain ⟨k, A, B, g, o, f, h1, h2, h3, h4, h5, rfl, hgl, hq⟩ := HTi.out j hlt
        have hB3 : Below wc.heap.size wc wr := by have := HQ.out.2.2.2; rw [Hmb.out] at this; exact this
        obtain ⟨x0, x1, x2⟩ := hq.below hB3 hgl
        simp only at x0 x1 x2
        obtain ⟨gt, o', rfl, hgt, hat⟩ := X5.out.2.2.1 (by omega)
        have d1 : wr.cell? ⟨gt, o' + j, none⟩ = some (.int .i64 k) := by rw [← h2]; exact (hB3.cell (p := ⟨gt, o' + j, none⟩) hgt).trans (hat j hlt)
        have hAv : B < vs.size := by rw [HQ.out.1]; exact h4
        have fm := HQ.out.2.2.1.frozen B
        have lmb := HQ.out.2.2.1.lt
        have hm0 : ∃ b, wr.cell? ⟨mb, B, none⟩ = some (.bool b) := ⟨_, (HQ.out.2.2.1.cell B).trans (HQ.out.2.1 B h4)⟩
        obtain ⟨bo, hm0⟩ := hm0
        have iB : (B : Int) < mx := by omega
        have ik : (k : Int) < M := by omega
        have ik2 : ¬ (M : Int) ≤ k := by omega
        have ik0 : ¬ (k : Int) < 0 := by omega
        have HW : Hid (∀ X : World, Bk X mb vs 4 → Below mb wc X → ∃ vs' : Array Value, vs'.size = mx ∧ (∀ i, i < mx → vs'[i]? = some (.bool (hdB NL T (j + 1) i))) ∧ Bk (X.setCell ⟨mb, B, none⟩ (.bool true)) mb vs' 4 ∧ Below mb wc (X.setCell ⟨mb, B, none⟩ (.bool true))) := by
          intro X hX1 hX2
          refine ⟨vs.setIfInBounds B (.bool true), by simp [HQ.out.1], fun i hi => ?_, Bk.put hX1 B _, ?_⟩
          · rw [hd_succ NL i h1 h5]
            by_cases c : i = B
            · subst c; simp [hAv]
            · rw [Array.getElem?_setIfInBounds_ne (by omega), HQ.out.2.1 i hi]
              have : (B == i) = false := by simp; omega
              simp only
              rw [this, Bool.or_false]
          · exact hX2.setCell (p := ⟨mb, B, none⟩) (Nat.le_refl _) _
        have K5 : ∀ m, Hid (Bk (wr.drewN m) mb vs 4 ∧ Below mb wc (wr.drewN m)) := fun m => ⟨Bk.drewN HQ.out.2.2.1 m, below_drewN HQ.out.2.2.2⟩
        by_cases j0 : j = 0
        · as_aux_lemma =>
            have ijp : ¬ (0 : Int) < j := by omega
            have ijn : ¬ 0 < j := by omega
            have bj : decide ((0 : Int) < (j : Int)) = false := by simp; omega
            have bjn : decide (0 < j) = false := by simp; omega
            have jt : j + 1 ≤ mt := by omega
            clear j0
            clear HQ hB3 hat hq h2 h1 h5
            go_wp2_with fail
            have bk0 : decide ((k : Int) < 0) = false := decide_eq_false (by omega)
            have bkM : decide (M ≤ k) = false := decide_eq_false (by omega)
            have bkI : decide ((M : Int) ≤ k) = false := decide_eq_false (by omega)
            go_quiet (fail)
            have K6 := K5 nq
            replace d1 : (wr.drewN nq).cell? ⟨gt, o' + j, none⟩ = some (.int .i64 k) := d1
            replace x0 : (wr.drewN nq).cell? ⟨g, o + k * 3, none⟩ = some (.int .i64 A) := x0
            replace x1 : (wr.drewN nq).cell? ⟨g, o + k * 3 + 1, none⟩ = some (.int .i64 B) := x1
            replace hm0 : (wr.drewN nq).cell? ⟨mb, B, none⟩ = some (.bool bo) := hm0
            replace fm : (wr.drewN nq).frozen? ⟨mb, B, none⟩ = false := fm
            replace lmb : mb < (wr.drewN nq).heap.size := lmb
            clear K5 x2
            generalize wr.drewN nq = W7 at *
            go_wp2
            exact ⟨⟨j + 1, by go_num, jt, _, (HW.out W7 K6.out.1 K6.out.2).choose_spec⟩, by simp [intOf]; omega⟩
        · as_aux_lemma =>
            obtain ⟨q, hq1⟩ : ∃ q, j = q + 1 := ⟨j - 1, by omega⟩
            obtain ⟨k', A', B', g', o'', f', h1', h2', h3', -, -, -, -, -⟩ := HTi.out q (by omega)
            have d2 : wr.cell? ⟨gt, o' + q, none⟩ = some (.int .i64 k') := by rw [← h2']; exact (hB3.cell (p := ⟨gt, o' + q, none⟩) hgt).trans (hat q (by omega))
            have e1 : (j : Int) - 1 = q := by omega
            have hkk : ¬ (k : Int) ≤ k' := by
              have := HTt.out q (by omega)
              rw [h2', ← hq1, h2] at this
              omega
            have ijp : (0 : Int) < j := by omega
            have ijn : 0 < j := by omega
            have bj : decide ((0 : Int) < (j : Int)) = true := by simp; omega
            have bjn : decide (0 < j) = true := by simp; omega
            have iq : (q : Int) < mt := by omega
            clear HQ hB3 hat hq h2 h1 h5 h1' h2' hq1
            go_wp2_with fail
            have bk0 : decide ((k : Int) < 0) = false := decide_eq_false (by omega)
            have bkM : decide (M ≤ k) = false := decide_eq_false (by omega)
            have bkI : decide ((M : Int) ≤ k) = false := decide_eq_false (by omega)
            have wq : IntKind.i64.wrap (q : Int) = q := by rw [IntKind.wrap_i64]; omega
            have bkk : decide (k ≤ k') = false := decide_eq_false (by omega)
            have bkkI : decide ((k : Int) ≤ k') = false := decide_eq_false (by omega)
            go_quiet (fail)
            have K6 := K5 nq
            replace d1 : (wr.drewN nq).cell? ⟨gt, o' + j, none⟩ = some (.int .i64 k) := d1
            replace x0 : (wr.drewN nq).cell? ⟨g, o + k * 3, none⟩ = some (.int .i64 A) := x0
            replace x1 : (wr.drewN nq).cell? ⟨g, o + k * 3 + 1, none⟩ = some (.int .i64 B) := x1
            replace hm0 : (wr.drewN nq).cell? ⟨mb, B, none⟩ = some (.bool bo) := hm0
            replace fm : (wr.drewN nq).frozen? ⟨mb, B, none⟩ = false := fm
            replace lmb : mb < (wr.drewN nq).heap.size := lmb
            clear K5 x2 d2 hkk
            generalize wr.drewN nq = W7 at *
            go_wp2
            exact ⟨⟨j + 1, by go_num, by omega, _, (HW.out W7 K6.out.1 K6.out.2).choose_spec⟩, by simp [intOf]; omega⟩
      · as_aux_lemma =>
          obtain rfl : mt = j := by omega
          have HV : Hid (∀ i, i < mx → vs[i]? = some (.bool (hdB NL T mt i))) := HQ.out.2.1
          have HB2 : Hid (Bk wr mb vs 4 ∧ Below mb wc wr) := HQ.out.2.2
          clear HQ HTi HTt
          go_wp2_with fail
          generalize wr = W7 at *
          go_loopw [21, 22] (fun s21 i wr => ∃ (j : Nat) (b : Bool), i = .int .i64 j ∧ s21 = .bool b ∧ j ≤ mx ∧ Hid (b = (fB && (xs.take j).all fun x => decide (x ≤ most)) ∧ Bk wr mb vs 4 ∧ Below mb wc wr)) (fun _ i _ => mx - (intOf i).toNat)
          case atStart => exact ⟨0, fB, rfl, rfl, Nat.zero_le _, by simp, HB2.out⟩
          case round =>
            obtain ⟨j, b, rfl, rfl, hj, HQ⟩ := hrel
            clear HB2
            have hB3 : Below wc.heap.size wc wr := by have := HQ.out.2.2; rw [Hmb.out] at this; exact this
            by_cases hlt : j < mx
            · have ij : (j : Int) < mx := by omega
              obtain ⟨x0, xh, xo⟩ := HX.out j hlt
              obtain ⟨gx, o1, rfl, hgx, hatx⟩ := X5.out.2.1 (by omega)
              obtain ⟨gu, o2, rfl, hgu, hatu⟩ := X5.out.2.2.2.2.2 (by omega)
              have d1 := (hB3.cell (p := ⟨gx, o1 + j, none⟩) hgx).trans (hatx j hlt)
              have d2 := (hB3.cell (p := ⟨gu, o2 + j, none⟩) hgu).trans (hatu j hlt)
              have c3 : wr.cell? ⟨mb, j, none⟩ = some (.bool (hdB NL T mt j)) := (HQ.out.2.1.cell j).trans (HV.out j hlt)
              have HR : Hid ((b && decide (atF xs j ≤ most)) = (fB && (xs.take (j + 1)).all fun x => decide (x ≤ most))) := by
                show (b && decide (atF xs j ≤ most)) = (fB && (xs.take (j + 1)).all fun x => decide (x ≤ most))
                have hjl : j < xs.length := by rw [← HU.out.2]; exact hlt
                have hz2 : atF xs j = xs[j] := by simp [atF, hjl]
                rw [← List.take_append_getElem hjl, List.all_append, ← Bool.and_assoc, ← HQ.out.1]
                simp [hz2]
              have K5 : ∀ m, Hid (Bk (wr.drewN m) mb vs 4 ∧ Below mb wc (wr.drewN m)) := fun m => ⟨Bk.drewN HQ.out.2.1 m, below_drewN HQ.out.2.2⟩
              obtain ⟨x, hx⟩ : ∃ x, atF xl j = x := ⟨_, rfl⟩
              obtain ⟨z, hz⟩ : ∃ z, atF xs j = z := ⟨_, rfl⟩
              rw [hx] at x0 xh xo d1
              rw [hz] at xo d2 HR
              have nx : ¬ x < 0 := by omega
              clear hx hz hatx hatu hB3
              by_cases xp : 0 < x
              · as_aux_lemma =>
                  rw [xh xp] at c3
                  clear xh
                  cases hf : fB
                  · obtain rfl : b = false := by rw [HQ.out.1, hf]; rfl
                    clear HQ xo
                    go_wp2_with fail
                    have q1 : decide (x < 0) = false := decide_eq_false (by omega)
                    have q2 : decide (0 < x) = true := decide_eq_true (by omega)
                    go_quiet (fail)
                    have K6 := K5 nq
                    replace d2 : (wr.drewN nq).cell? ⟨gu, o2 + j, none⟩ = some (.int .i64 z) := d2
                    clear K5 d1 c3
                    generalize wr.drewN nq = W8 at *
                    go_wp2
                    exact ⟨⟨j + 1, _, by go_num, rfl, by omega, (by have h := HR.out; rw [hf] at h; exact h), K6.out⟩, by simp [intOf]; omega⟩
                  · have hzx : ¬ z < x := by have := xo hf; omega
                    clear HQ xo
                    cases b
                    · go_wp2_with fail
                      have q1 : decide (x < 0) = false := decide_eq_false (by omega)
                      have q2 : decide (0 < x) = true := decide_eq_true (by omega)
                      have q3 : decide (z < x) = false := decide_eq_false (by omega)
                      go_quiet (fail)
                      have K6 := K5 nq
                      replace d2 : (wr.drewN nq).cell? ⟨gu, o2 + j, none⟩ = some (.int .i64 z) := d2
                      clear K5 d1 c3
                      generalize wr.drewN nq = W8 at *
                      go_wp2
                      exact ⟨⟨j + 1, _, by go_num, rfl, by omega, (by have h := HR.out; rw [hf] at h; exact h), K6.out⟩, by simp [intOf]; omega⟩
                    · go_wp2_with fail
                      have q1 : decide (x < 0) = false := decide_eq_false (by omega)
                      have q2 : decide (0 < x) = true := decide_eq_true (by omega)
                      have q3 : decide (z < x) = false := decide_eq_false (by omega)
                      go_quiet (fail)
                      have K6 := K5 nq
                      replace d2 : (wr.drewN nq).cell? ⟨gu, o2 + j, none⟩ = some (.int .i64 z) := d2
                      clear K5 d1 c3
                      generalize wr.drewN nq = W8 at *
                      go_wp2
                      exact ⟨⟨j + 1, _, by go_num, rfl, by omega, (by have h := HR.out; rw [hf] at h; exact h), K6.out⟩, by simp [intOf]; omega⟩
              · as_aux_lemma =>
                  clear xh
                  cases hf : fB
                  · obtain rfl : b = false := by rw [HQ.out.1, hf]; rfl
                    clear HQ xo
                    go_wp2_with fail
                    have q1 : decide (x < 0) = false := decide_eq_false (by omega)
                    have q2 : decide (0 < x) = false := decide_eq_false (by omega)
                    go_quiet (fail)
                    have K6 := K5 nq
                    replace d2 : (wr.drewN nq).cell? ⟨gu, o2 + j, none⟩ = some (.int .i64 z) := d2
                    clear K5 d1 c3
                    generalize wr.drewN nq = W8 at *
                    go_wp2
                    exact ⟨⟨j + 1, _, by go_num, rfl, by omega, (by have h := HR.out; rw [hf] at h; exact h), K6.out⟩, by simp [intOf]; omega⟩
                  · have hzx : ¬ z < x := by have := xo hf; omega
                    clear HQ xo
                    cases b
                    · go_wp2_with fail
                      have q1 : decide (x < 0) = false := decide_eq_false (by omega)
                      have q2 : decide (0 < x) = false := decide_eq_false (by omega)
                      have q3 : decide (z < x) = false := decide_eq_false (by omega)
                      go_quiet (fail)
                      have K6 := K5 nq
                      replace d2 : (wr.drewN nq).cell? ⟨gu, o2 + j, none⟩ = some (.int .i64 z) := d2
                      clear K5 d1 c3
                      generalize wr.drewN nq = W8 at *
                      go_wp2
                      exact ⟨⟨j + 1, _, by go_num, rfl, by omega, (by have h := HR.out; rw [hf] at h; exact h), K6.out⟩, by simp [intOf]; omega⟩
                    · go_wp2_with fail
                      have q1 : decide (x < 0) = false := decide_eq_false (by omega)
                      have q2 : decide (0 < x) = false := decide_eq_false (by omega)
                      have q3 : decide (z < x) = false := decide_eq_false (by omega)
                      go_quiet (fail)
                      have K6 := K5 nq
                      replace d2 : (wr.drewN nq).cell? ⟨gu, o2 + j, none⟩ = some (.int .i64 z) := d2
                      clear K5 d1 c3
                      generalize wr.drewN nq = W8 at *
                      go_wp2
                      exact ⟨⟨j + 1, _, by go_num, rfl, by omega, (by have h := HR.out; rw [hf] at h; exact h), K6.out⟩, by simp [intOf]; omega⟩
            · as_aux_lemma =>
                obtain rfl : mx = j := by omega
                have E : Hid (uB = b) := by
                  show uB = b
                  rw [HuB.out, HQ.out.1, List.take_of_length_le (by rw [HU.out.2]; exact Nat.le_refl _)]
                have F6 : Hid (Below w.heap.size w wr) := bel_tr F5.out hB3
                have X6 : Hid (IS wr (.slice ox mx cx) xl ∧ Ci wr ox mx (atF xl) ∧ IS wr (.slice oy my cy) yl ∧ Ci wr oy my (atF yl) ∧ Ci wr ou mx (atF xs)) := ⟨X5.out.1.below hB3, X5.out.2.1.below hB3, X5.out.2.2.2.1.below hB3, X5.out.2.2.2.2.1.below hB3, X5.out.2.2.2.2.2.below hB3⟩
                obtain rfl : uB = b := E.out
                have imx : ((mx : Int) != mx) = false := by simp
                clear HQ hB3 X5 F5 E HV HuB HfB Hf0
                go_wp2_with fail
                refine (HKx.out (by simp) _ _ F6.out X6.out.1).mono ?_
                rintro e w7 ⟨rfl, hb7⟩
                have F7 : Hid (Below w.heap.size w w7) := bel_tr F6.out hb7
                have X7 : Hid (Ci w7 ox mx (atF xl) ∧ IS w7 (.slice oy my cy) yl ∧ Ci w7 oy my (atF yl) ∧ Ci w7 ou mx (atF xs)) := ⟨X6.out.2.1.below hb7, X6.out.2.2.1.below hb7, X6.out.2.2.2.1.below hb7, X6.out.2.2.2.2.below hb7⟩
                clear hb7 F6 X6 HKx
                by_cases hm : em = 0
                · as_aux_lemma =>
                    subst hm
                    obtain ⟨hmy, hyy⟩ := HM1.out (by simp) (by simp)
                    obtain rfl : mx = my := hmy.symm
                    have HY : Hid (∀ i, i < mx → atF yl i ≤ most ∧ atF xl i ≤ atF yl i ∧ (uB = true → atF xs i ≤ atF yl i)) := hyy
                    clear hyy hmy HM1 HM0
                    go_wp2_with fail
                    refine (HKy.out (by simp) (by simp) _ _ F7.out X7.out.2.1).mono ?_
                    rintro e w8 ⟨rfl, hb8⟩
                    have F8 : Hid (Below w.heap.size w w8) := bel_tr F7.out hb8
                    have X8 : Hid (Ci w8 ox mx (atF xl) ∧ Ci w8 oy mx (atF yl) ∧ Ci w8 ou mx (atF xs)) := ⟨X7.out.1.below hb8, X7.out.2.2.1.below hb8, X7.out.2.2.2.below hb8⟩
                    clear hb8 F7 X7 HKy
                    go_wp2_with fail
                    go_loopw [25] (fun i wr => ∃ j : Nat, i = .int .i64 j ∧ j ≤ mx ∧ Hid (Below w8.heap.size w8 wr)) (fun i _ => mx - (intOf i).toNat)
                    case atStart => exact ⟨0, rfl, Nat.zero_le _, Below.refl _ _⟩
                    case round =>
                      obtain ⟨j, rfl, hj, HQ⟩ := hrel
                      by_cases hlt : j < mx
                      · have ij : (j : Int) < mx := by omega
                        obtain ⟨y1, y2, y3⟩ := HY.out j hlt
                        obtain ⟨gx, o1, rfl, hgx, hatx⟩ := X8.out.1 (by omega)
                        obtain ⟨gy, o3, rfl, hgy, haty⟩ := X8.out.2.1 (by omega)
                        obtain ⟨gu, o2, rfl, hgu, hatu⟩ := X8.out.2.2 (by omega)
                        have d1 := (HQ.out.cell (p := ⟨gx, o1 + j, none⟩) hgx).trans (hatx j hlt)
                        have d2 := (HQ.out.cell (p := ⟨gu, o2 + j, none⟩) hgu).trans (hatu j hlt)
                        have d3 := (HQ.out.cell (p := ⟨gy, o3 + j, none⟩) hgy).trans (haty j hlt)
                        have K5 : ∀ m, Hid (Below w8.heap.size w8 (wr.drewN m)) := fun m => below_drewN HQ.out
                        obtain ⟨x, hx⟩ : ∃ x, atF xl j = x := ⟨_, rfl⟩
                        obtain ⟨z, hz⟩ : ∃ z, atF xs j = z := ⟨_, rfl⟩
                        obtain ⟨y, hy⟩ : ∃ y, atF yl j = y := ⟨_, rfl⟩
                        rw [hx] at y2 d1
                        rw [hz] at y3 d2
                        rw [hy] at y1 y2 y3 d3
                        have n1 : ¬ most < y := by omega
                        have n2 : ¬ y < x := by omega
                        clear hx hz hy hatx hatu haty HQ
                        cases hu : uB
                        · clear y3
                          go_wp2_with fail
                          have q1 : decide (most < y) = false := decide_eq_false (by omega)
                          have q2 : decide (y < x) = false := decide_eq_false (by omega)
                          go_quiet (fail)
                          have K6 := K5 nq
                          clear K5 d1 d2 d3
                          generalize wr.drewN nq = W8 at *
                          go_wp2
                          exact ⟨⟨j + 1, by go_num, by omega, K6⟩, by simp [intOf]; omega⟩
                        · have n3 : ¬ y < z := by have := y3 hu; omega
                          clear y3
                          go_wp2_with fail
                          have q1 : decide (most < y) = false := decide_eq_false (by omega)
                          have q2 : decide (y < x) = false := decide_eq_false (by omega)
                          have q3 : decide (y < z) = false := decide_eq_false (by omega)
                          go_quiet (fail)
                          have K6 := K5 nq
                          clear K5 d1 d2 d3
                          generalize wr.drewN nq = W8 at *
                          go_wp2
                          exact ⟨⟨j + 1, by go_num, by omega, K6⟩, by simp [intOf]; omega⟩
                      · obtain rfl : mx = j := by omega
                        have F9 : Hid (Below w.heap.size w wr) := bel_tr F8.out HQ.out
                        clear HQ
                        go_wp2
                        go_ret
                        exact ⟨rfl, F9.out⟩
                · as_aux_lemma =>
                    obtain ⟨rfl, h90⟩ := HM0.out (by simp) hm
                    have b2 : (em != 0) = true := by simp [hm]
                    by_cases k9 : em = 90
                    · obtain hu := h90 k9
                      subst k9
                      subst hu
                      go_wp2
                      go_ret
                      exact ⟨rfl, F7.out⟩
                    · have b3 : (em != 90) = true := by simp [k9]
                      go_wp2
                      go_ret
                      exact ⟨rfl, F7.out⟩
  · as_aux_lemma =>
      obtain ⟨rfl, hm, h90⟩ := HE.out he
      have b1 : (ee != 0) = true := by simp [he]
      have b2 : (em != 0) = true := by simp [hm]
      by_cases k9 : ee = 90
      · obtain rfl := h90 k9
        subst k9
        go_step
        go_wp2
        go_ret
        exact ⟨rfl, F5.out⟩
      · have b3 : (ee == 90) = false := by simp [k9]
        go_step
        go_wp2
        go_ret
        exact ⟨rfl, F5.out⟩

end Go.Proofs.Ytjamkbhplejolaa
