/-
  Contracts of package region: Bound.
-/
import Derived.Test.YtagkbpceiedikaaGQ
namespace Go.Proofs.Ytagkbpceiedikaa
open Go.RowKit Go.Sort Go.Shelf

theorem Bk.put4 {W : World} {b : Nat} {a0 a1 a2 a3 : Value} {t : TypeId} (h : Bk W b #[a0, a1, a2, a3] t) (v0 v1 v2 v3 : Value) :
    Bk ((((W.setCell ⟨b, 0, none⟩ v0).setCell ⟨b, 1, none⟩ v1).setCell ⟨b, 2, none⟩ v2).setCell ⟨b, 3, none⟩ v3) b #[v0, v1, v2, v3] t := by
  simpa using (((h.put 0 v0).put 1 v1).put 2 v2).put 3 v3
theorem Bk.at4 {W : World} {b : Nat} {a0 a1 a2 a3 : Value} {t : TypeId} (h : Bk W b #[a0, a1, a2, a3] t) : W.cell? ⟨b, 0, none⟩ = some a0 ∧ W.cell? ⟨b, 1, none⟩ = some a1 ∧ W.cell? ⟨b, 2, none⟩ = some a2 ∧ W.cell? ⟨b, 3, none⟩ = some a3 :=
  ⟨by rw [h.cell]; rfl, by rw [h.cell]; rfl, by rw [h.cell]; rfl, by rw [h.cell]; rfl⟩
theorem Bk.off4 {W : World} {b b' : Nat} {vs : Array Value} {t : TypeId} (h : Bk W b vs t) (hb : b' ≠ b) (v0 v1 v2 v3 : Value) : Bk ((((W.setCell ⟨b', 0, none⟩ v0).setCell ⟨b', 1, none⟩ v1).setCell ⟨b', 2, none⟩ v2).setCell ⟨b', 3, none⟩ v3) b vs t :=
  (((h.other _ _ hb).other _ _ hb).other _ _ hb).other _ _ hb
theorem below4 {B b : Nat} {w w1 : World} (L : Below B w w1) (h : B ≤ b) (v0 v1 v2 v3 : Value) : Below B w ((((w1.setCell ⟨b, 0, none⟩ v0).setCell ⟨b, 1, none⟩ v1).setCell ⟨b, 2, none⟩ v2).setCell ⟨b, 3, none⟩ v3) :=
  (((L.setCell (p := ⟨b, 0, none⟩) h v0).setCell (p := ⟨b, 1, none⟩) h v1).setCell (p := ⟨b, 2, none⟩) h v2).setCell (p := ⟨b, 3, none⟩) h v3
/-- The least rectangle about a list. -/
def jnR (p r : Rc) : Rc := joinR p.x p.y p.w p.h r.x r.y r.w r.h
def bndF (l : List Rc) : Rc := l.foldl jnR zr
def Near (r : Rc) : Prop := -16384 ≤ r.x ∧ r.x ≤ 16384 ∧ -16384 ≤ r.y ∧ r.y ≤ 16384
theorem near_i64 {r : Rc} (h : Near r) : I64 r.x ∧ I64 r.y := by unfold Near at h; unfold I64; omega
theorem near_may {r : Rc} (h : mayB r.x r.y r.w r.h = true) : Near r := by
  have := may_iff.1 h
  unfold Near
  omega
theorem near_join {p r : Rc} (hp : Near p) (hr : Near r) : Near (jnR p r) := by
  unfold jnR joinR
  unfold Near at hp hr
  have hz : Near zr := by unfold Near zr; simp
  split
  · split
    · exact hz
    · exact hr
  · split
    · exact hp
    · unfold btw
      split
      · exact hz
      · unfold Near
        dsimp only
        omega
theorem near_bnd {l : List Rc} (h : ∀ r ∈ l, Near r) : Near (bndF l) := by
  unfold bndF
  have hz : Near zr := by unfold Near zr; simp
  generalize zr = p at hz
  induction l generalizing p with
  | nil => exact hz
  | cons r t ih => exact ih (fun q hq => h q (by simp [hq])) _ (near_join hz (h r (by simp)))
def bouR (l : List Rc) : Rc := if lisE l = 0 then bndF l else zr

set_option maxRecDepth 10000 in
set_option maxHeartbeats 4000000 in
theorem boundL_any (a : List Rc) (va : Value) (w : World) (ha : LsR w va a) (ia : I64s a) :
    Calls Try.prog 30 #[va] w fun e w' => e = .returned (.tuple #[.agg #[.int .i64 (bouR a).x, .int .i64 (bouR a).y, .int .i64 (bouR a).w, .int .i64 (bouR a).h], .int .i64 (lisE a)]) ∧ Below w.heap.size w w' := by
  have H1 : Hid (∀ W, Below w.heap.size w W → Calls Try.prog 41 #[va] W fun e w' => e = .returned (.int .i64 (lisE a)) ∧ Below W.heap.size W w') := fun W h => listed_any a va W (ha.below h) ia
  have HB0 : Hid (Below w.heap.size w (w.alloc (.cells #[.int .i64 0, .int .i64 0, .int .i64 0, .int .i64 0] 35)) ∧ Bk (w.alloc (.cells #[.int .i64 0, .int .i64 0, .int .i64 0, .int .i64 0] 35)) w.heap.size #[.int .i64 0, .int .i64 0, .int .i64 0, .int .i64 0] 35) := ⟨(Below.refl _ w).alloc (Nat.le_refl _) _, Bk.new _ _ _⟩
  unfold bouR
  by_cases h0 : lisE a = 0
  · have hal := (lisE_zero h0).1
    have HM : Hid (∀ r ∈ a, Near r) := fun r hr => near_may ((lisE_zero h0).2 r hr)
    obtain ⟨oa, ca, rfl, hca, hga⟩ := ha
    have HG : Hid (0 < a.length → ∃ g o, oa = some ⟨g, o, none⟩ ∧ g < w.heap.size ∧ ∀ i (h : i < a.length), RcAt w g (o + i * 4) a[i]) := hga
    rw [h0] at H1 ⊢
    rw [if_pos rfl]
    obtain ⟨T, HT⟩ : ∃ T, Hid (T = bndF a) := ⟨_, rfl⟩
    rw [← HT.out]
    clear ia h0 hga
    go_enter Try.func30, Try.ntmps30
    go_wp2_with fail
    refine (H1.out _ HB0.out.1).mono ?_
    rintro e w1 ⟨rfl, hb1⟩
    obtain ⟨bx, hbx⟩ : ∃ bx, bx = w1.heap.size := ⟨_, rfl⟩
    obtain ⟨W, hW⟩ : ∃ W, W = w1.alloc (.cells #[.int .i64 0, .int .i64 0, .int .i64 0, .int .i64 0] 35) := ⟨_, rfl⟩
    have HB1 : Hid (Below w.heap.size w W ∧ Bk W w.heap.size #[.int .i64 0, .int .i64 0, .int .i64 0, .int .i64 0] 35 ∧ Bk W bx #[.int .i64 zr.x, .int .i64 zr.y, .int .i64 zr.w, .int .i64 zr.h] 35 ∧ w.heap.size < bx) := by
      have q1 := HB0.out.1.trans (hb1.mono HB0.out.1.size)
      have q2 : Below w1.heap.size w1 W := by rw [hW]; exact (Below.refl _ w1).alloc (Nat.le_refl _) _
      refine ⟨q1.trans (q2.mono q1.size), (HB0.out.2.below hb1).below q2, by rw [hW, hbx]; exact Bk.new _ _ _, ?_⟩
      rw [hbx]
      exact (HB0.out.2.below hb1).lt
    clear hb1
    go_wp2_with fail
    rw [← hW, ← hbx]
    have hwb : w.heap.size < bx := HB1.out.2.2.2
    clear hW hbx
    go_loopw [16] (fun i wr => ∃ k : Nat, k ≤ a.length ∧ i = .int .i64 k ∧ Below w.heap.size w wr ∧ Bk wr w.heap.size #[.int .i64 0, .int .i64 0, .int .i64 0, .int .i64 0] 35 ∧ Bk wr bx #[.int .i64 (bndF (a.take k)).x, .int .i64 (bndF (a.take k)).y, .int .i64 (bndF (a.take k)).w, .int .i64 (bndF (a.take k)).h] 35) (fun i _ => a.length - (intOf i).toNat)
    case atStart => exact ⟨0, Nat.zero_le _, rfl, HB1.out.1, HB1.out.2.1, HB1.out.2.2.1⟩
    case round =>
      obtain ⟨k, hk, rfl, L, B0, B1⟩ := hrel
      by_cases hlt : k < a.length
      · obtain ⟨g, o, rfl, hg, hat⟩ := HG.out (by omega)
        obtain ⟨x0, x1, x2, x3⟩ := (hat k hlt).kept (w' := wr) fun j => L.cell (p := ⟨g, j, none⟩) hg
        have e1 : a.take (k + 1) = a.take k ++ [a[k]] := (List.take_append_getElem hlt).symm
        have hnr := HM.out _ (List.getElem_mem hlt)
        have hnp : Near (bndF (a.take k)) := near_bnd fun r hr => HM.out r (List.mem_of_mem_take hr)
        have HN : Hid (bndF (a.take (k + 1)) = jnR (bndF (a.take k)) a[k]) := by unfold Hid bndF; rw [e1, List.foldl_append]; rfl
        generalize a[k] = x at *
        generalize bndF (a.take k) = p at *
        have HJ : Hid (∀ w, Calls Try.prog 61 #[.agg #[.int .i64 p.x, .int .i64 p.y, .int .i64 p.w, .int .i64 p.h], .agg #[.int .i64 x.x, .int .i64 x.y, .int .i64 x.w, .int .i64 x.h]] w fun e w' => e = .returned (.agg #[.int .i64 (jnR p x).x, .int .i64 (jnR p x).y, .int .i64 (jnR p x).w, .int .i64 (jnR p x).h]) ∧ Below w.heap.size w w') := fun w => join_any _ _ _ _ _ _ _ _ w (near_i64 hnp).1 (near_i64 hnp).2 (near_i64 hnr).1 (near_i64 hnr).2
        generalize jnR p x = q at *
        have HB2 : Hid (Below w.heap.size w (wr.alloc (.cells #[.int .i64 x.x, .int .i64 x.y, .int .i64 x.w, .int .i64 x.h] 35)) ∧ Bk (wr.alloc (.cells #[.int .i64 x.x, .int .i64 x.y, .int .i64 x.w, .int .i64 x.h] 35)) w.heap.size #[.int .i64 0, .int .i64 0, .int .i64 0, .int .i64 0] 35 ∧ Bk (wr.alloc (.cells #[.int .i64 x.x, .int .i64 x.y, .int .i64 x.w, .int .i64 x.h] 35)) bx #[.int .i64 p.x, .int .i64 p.y, .int .i64 p.w, .int .i64 p.h] 35) := by
          have hb : Below wr.heap.size wr (wr.alloc (.cells #[.int .i64 x.x, .int .i64 x.y, .int .i64 x.w, .int .i64 x.h] 35)) := (Below.refl _ wr).alloc (Nat.le_refl _) _
          exact ⟨L.trans (hb.mono L.size), B0.below hb, B1.below hb⟩
        obtain ⟨y0, y1, y2, y3⟩ := B1.at4
        have hbl := B1.lt
        clear hat e1 L B0 B1 hnr hnp
        go_wp2_with fail
        refine (HJ.out _).mono ?_
        rintro e w4 ⟨rfl, hb4⟩
        have HB4 : Hid (Below w.heap.size w w4 ∧ Bk w4 w.heap.size #[.int .i64 0, .int .i64 0, .int .i64 0, .int .i64 0] 35 ∧ Bk w4 bx #[.int .i64 p.x, .int .i64 p.y, .int .i64 p.w, .int .i64 p.h] 35) := ⟨HB2.out.1.trans (hb4.mono HB2.out.1.size), HB2.out.2.1.below hb4, HB2.out.2.2.below hb4⟩
        clear hb4 x0 x1 x2 x3 y0 y1 y2 y3
        obtain ⟨z0, z1, z2, z3⟩ := HB4.out.2.2.at4
        have f0 := HB4.out.2.2.frozen 0
        have f1 := HB4.out.2.2.frozen 1
        have f2 := HB4.out.2.2.frozen 2
        have f3 := HB4.out.2.2.frozen 3
        have HRel : Hid (∃ k' : Nat, k' ≤ a.length ∧ Value.int .i64 ((k : Int) + 1) = .int .i64 k' ∧ Below w.heap.size w ((((w4.setCell ⟨bx, 0, none⟩ (.int .i64 q.x)).setCell ⟨bx, 1, none⟩ (.int .i64 q.y)).setCell ⟨bx, 2, none⟩ (.int .i64 q.w)).setCell ⟨bx, 3, none⟩ (.int .i64 q.h)) ∧ Bk ((((w4.setCell ⟨bx, 0, none⟩ (.int .i64 q.x)).setCell ⟨bx, 1, none⟩ (.int .i64 q.y)).setCell ⟨bx, 2, none⟩ (.int .i64 q.w)).setCell ⟨bx, 3, none⟩ (.int .i64 q.h)) w.heap.size #[.int .i64 0, .int .i64 0, .int .i64 0, .int .i64 0] 35 ∧ Bk ((((w4.setCell ⟨bx, 0, none⟩ (.int .i64 q.x)).setCell ⟨bx, 1, none⟩ (.int .i64 q.y)).setCell ⟨bx, 2, none⟩ (.int .i64 q.w)).setCell ⟨bx, 3, none⟩ (.int .i64 q.h)) bx #[.int .i64 (bndF (a.take k')).x, .int .i64 (bndF (a.take k')).y, .int .i64 (bndF (a.take k')).w, .int .i64 (bndF (a.take k')).h] 35) :=
          ⟨k + 1, by omega, by go_num, below4 HB4.out.1 (by omega) _ _ _ _, HB4.out.2.1.off4 (by omega) _ _ _ _, by rw [HN.out]; exact HB4.out.2.2.put4 _ _ _ _⟩
        go_wp2
        exact ⟨HRel.out, by simp [intOf]; omega⟩
      · obtain rfl : k = a.length := by omega
        rw [List.take_length, ← HT.out] at B1
        obtain ⟨y0, y1, y2, y3⟩ := B1.at4
        obtain ⟨z0, z1, z2, z3⟩ := B0.at4
        have f0 := B0.frozen 0
        have f1 := B0.frozen 1
        have f2 := B0.frozen 2
        have f3 := B0.frozen 3
        have HF : Hid (Below w.heap.size w ((((wr.setCell ⟨w.heap.size, 0, none⟩ (.int .i64 T.x)).setCell ⟨w.heap.size, 1, none⟩ (.int .i64 T.y)).setCell ⟨w.heap.size, 2, none⟩ (.int .i64 T.w)).setCell ⟨w.heap.size, 3, none⟩ (.int .i64 T.h)) ∧ Bk ((((wr.setCell ⟨w.heap.size, 0, none⟩ (.int .i64 T.x)).setCell ⟨w.heap.size, 1, none⟩ (.int .i64 T.y)).setCell ⟨w.heap.size, 2, none⟩ (.int .i64 T.w)).setCell ⟨w.heap.size, 3, none⟩ (.int .i64 T.h)) w.heap.size #[.int .i64 T.x, .int .i64 T.y, .int .i64 T.w, .int .i64 T.h] 35) := ⟨below4 L (Nat.le_refl _) _ _ _ _, B0.put4 _ _ _ _⟩
        clear L B0 B1
        obtain ⟨c0, c1, c2, c3⟩ := HF.out.2.at4
        go_wp2
        exact bodyPost_ret (v := .tuple #[.agg #[.int .i64 T.x, .int .i64 T.y, .int .i64 T.w, .int .i64 T.h], .int .i64 0]) (by simp [results, Try.results30, go_sem, c0, c1, c2, c3]) rfl ⟨rfl, HF.out.1⟩
  · rw [if_neg h0]
    generalize lisE a = ea at *
    have h1 : (ea != 0) = true := by simp [h0]
    clear ha ia h0
    go_enter Try.func30, Try.ntmps30
    go_wp2_with fail
    refine (H1.out _ HB0.out.1).mono ?_
    rintro e w1 ⟨rfl, hb1⟩
    have HB1 : Hid (Below w.heap.size w w1 ∧ Bk w1 w.heap.size #[.int .i64 0, .int .i64 0, .int .i64 0, .int .i64 0] 35) := ⟨HB0.out.1.trans (hb1.mono HB0.out.1.size), HB0.out.2.below hb1⟩
    clear hb1
    obtain ⟨z0, z1, z2, z3⟩ := HB1.out.2.at4
    have f0 := HB1.out.2.frozen 0
    have f1 := HB1.out.2.frozen 1
    have f2 := HB1.out.2.frozen 2
    have f3 := HB1.out.2.frozen 3
    have HF : Hid (Below w.heap.size w ((((w1.setCell ⟨w.heap.size, 0, none⟩ (.int .i64 0)).setCell ⟨w.heap.size, 1, none⟩ (.int .i64 0)).setCell ⟨w.heap.size, 2, none⟩ (.int .i64 0)).setCell ⟨w.heap.size, 3, none⟩ (.int .i64 0)) ∧ Bk ((((w1.setCell ⟨w.heap.size, 0, none⟩ (.int .i64 0)).setCell ⟨w.heap.size, 1, none⟩ (.int .i64 0)).setCell ⟨w.heap.size, 2, none⟩ (.int .i64 0)).setCell ⟨w.heap.size, 3, none⟩ (.int .i64 0)) w.heap.size #[.int .i64 0, .int .i64 0, .int .i64 0, .int .i64 0] 35) := ⟨below4 HB1.out.1 (Nat.le_refl _) _ _ _ _, HB1.out.2.put4 _ _ _ _⟩
    obtain ⟨c0, c1, c2, c3⟩ := HF.out.2.at4
    go_wp2
    exact bodyPost_ret (v := .tuple #[.agg #[.int .i64 0, .int .i64 0, .int .i64 0, .int .i64 0], .int .i64 ea]) (by simp [results, Try.results30, go_sem, c0, c1, c2, c3]) rfl ⟨rfl, HF.out.1⟩

end Go.Proofs.Ytagkbpceiedikaa
