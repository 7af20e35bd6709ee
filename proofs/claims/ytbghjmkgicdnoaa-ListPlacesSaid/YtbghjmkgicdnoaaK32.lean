/-
  Texts of this claim, one behind the other: what each is about stands ahead of it.
-/
import Derived.Test.YtbghjmkgicdnoaaK11
import Derived.Test.YtbghjmkgicdnoaaK28
import Derived.Test.YtbghjmkgicdnoaaK26
import Derived.Test.YtbghjmkgicdnoaaK31
/-
  Contracts of package region: Bound.
-/
namespace Go.Proofs.Ytbghjmkgicdnoaa
open Go.RowKit Go.Sort Go.Shelf

theorem Bk.put4r {W : World} {b : Nat} {a0 a1 a2 a3 : Value} {t : TypeId} (h : Bk W b #[a0, a1, a2, a3] t) (v0 v1 v2 v3 : Value) :
    Bk ((((W.setCell ⟨b, 0, none⟩ v0).setCell ⟨b, 1, none⟩ v1).setCell ⟨b, 2, none⟩ v2).setCell ⟨b, 3, none⟩ v3) b #[v0, v1, v2, v3] t := by
  simpa using (((h.put 0 v0).put 1 v1).put 2 v2).put 3 v3
theorem Bk.at4r {W : World} {b : Nat} {a0 a1 a2 a3 : Value} {t : TypeId} (h : Bk W b #[a0, a1, a2, a3] t) : W.cell? ⟨b, 0, none⟩ = some a0 ∧ W.cell? ⟨b, 1, none⟩ = some a1 ∧ W.cell? ⟨b, 2, none⟩ = some a2 ∧ W.cell? ⟨b, 3, none⟩ = some a3 :=
  ⟨by rw [h.cell]; rfl, by rw [h.cell]; rfl, by rw [h.cell]; rfl, by rw [h.cell]; rfl⟩
theorem Bk.off4r {W : World} {b b' : Nat} {vs : Array Value} {t : TypeId} (h : Bk W b vs t) (hb : b' ≠ b) (v0 v1 v2 v3 : Value) : Bk ((((W.setCell ⟨b', 0, none⟩ v0).setCell ⟨b', 1, none⟩ v1).setCell ⟨b', 2, none⟩ v2).setCell ⟨b', 3, none⟩ v3) b vs t :=
  (((h.other _ _ hb).other _ _ hb).other _ _ hb).other _ _ hb
theorem below4r {B b : Nat} {w w1 : World} (L : Below B w w1) (h : B ≤ b) (v0 v1 v2 v3 : Value) : Below B w ((((w1.setCell ⟨b, 0, none⟩ v0).setCell ⟨b, 1, none⟩ v1).setCell ⟨b, 2, none⟩ v2).setCell ⟨b, 3, none⟩ v3) :=
  (((L.setCell (p := ⟨b, 0, none⟩) h v0).setCell (p := ⟨b, 1, none⟩) h v1).setCell (p := ⟨b, 2, none⟩) h v2).setCell (p := ⟨b, 3, none⟩) h v3
/-- The least rectangle about a list. -/
def jnR (p r : Rc) : Rc := joinR p.x p.y p.w p.h r.x r.y r.w r.h
def bndF (l : List Rc) : Rc := l.foldl jnR zr
def Near (r : Rc) : Prop := -16384 ≤ r.x ∧ r.x ≤ 16384 ∧ -16384 ≤ r.y ∧ r.y ≤ 16384
theorem near_i64 {r : Rc} (h : Near r) : I64 r.x ∧ I64 r.y := by unfold Near at h; unfold I64; omega
theorem near_may {r : Rc} (h : mayB r.x r.y r.w r.h = true) : Near r := by
  have := may_iff.1 h
  unfold Near
  omega
theorem near_join {p r : Rc} (hp : Near p) (hr : Near r) : Near (jnR p r) := by
  unfold jnR joinR
  unfold Near at hp hr
  have hz : Near zr := by unfold Near zr; simp
  split
  · split
    · exact hz
    · exact hr
  · split
    · exact hp
    · unfold btw
      split
      · exact hz
      · unfold Near
        dsimp only
        omega
theorem near_bnd {l : List Rc} (h : ∀ r ∈ l, Near r) : Near (bndF l) := by
  unfold bndF
  have hz : Near zr := by unfold Near zr; simp
  generalize zr = p at hz
  induction l generalizing p with
  | nil => exact hz
  | cons r t ih => exact ih (fun q hq => h q (by simp [hq])) _ (near_join hz (h r (by simp)))
def bouR (l : List Rc) : Rc := if lisE l = 0 then bndF l else zr

set_option maxRecDepth 10000 in
set_option maxHeartbeats 4000000 in
theorem boundL_any (a : List Rc) (va : Value) (w : World) (ha : LsR w va a) (ia : I64s a) :
    Calls Try.prog 65 #[va] w fun e w' => e = .returned (.tuple #[.agg #[.int .i64 (bouR a).x, .int .i64 (bouR a).y, .int .i64 (bouR a).w, .int .i64 (bouR a).h], .int .i64 (lisE a)]) ∧ Below w.heap.size w w' := by
  have H1 : Hid (∀ W, Below w.heap.size w W → Calls Try.prog 52 #[va] W fun e w' => e = .returned (.int .i64 (lisE a)) ∧ Below W.heap.size W w') := fun W h => listed_any a va W (ha.below h) ia
  have HB0 : Hid (Below w.heap.size w (w.alloc (.cells #[.int .i64 0, .int .i64 0, .int .i64 0, .int .i64 0] 27)) ∧ Bk (w.alloc (.cells #[.int .i64 0, .int .i64 0, .int .i64 0, .int .i64 0] 27)) w.heap.size #[.int .i64 0, .int .i64 0, .int .i64 0, .int .i64 0] 27) := ⟨(Below.refl _ w).alloc (Nat.le_refl _) _, Bk.new _ _ _⟩
  unfold bouR
  by_cases h0 : lisE a = 0
  · have hal := (lisE_zero h0).1
    have HM : Hid (∀ r ∈ a, Near r) := fun r hr => near_may ((lisE_zero h0).2 r hr)
    obtain ⟨oa, ca, rfl, hca, hga⟩ := ha
    have HG : Hid (0 < a.length → ∃ g o, oa = some ⟨g, o, none⟩ ∧ g < w.heap.size ∧ ∀ i (h : i < a.length), RcAt w g (o + i * 4) a[i]) := hga
    rw [h0] at H1 ⊢
    rw [if_pos rfl]
    obtain ⟨T, HT⟩ : ∃ T, Hid (T = bndF a) := ⟨_, rfl⟩
    rw [← HT.out]
    clear ia h0 hga
    go_enter Try.func65, Try.ntmps65
    go_wp2_with fail
    refine (H1.out _ HB0.out.1).mono ?_
    rintro e w1 ⟨rfl, hb1⟩
    obtain ⟨bx, hbx⟩ : ∃ bx, bx = w1.heap.size := ⟨_, rfl⟩
    obtain ⟨W, hW⟩ : ∃ W, W = w1.alloc (.cells #[.int .i64 0, .int .i64 0, .int .i64 0, .int .i64 0] 27) := ⟨_, rfl⟩
    have HB1 : Hid (Below w.heap.size w W ∧ Bk W w.heap.size #[.int .i64 0, .int .i64 0, .int .i64 0, .int .i64 0] 27 ∧ Bk W bx #[.int .i64 zr.x, .int .i64 zr.y, .int .i64 zr.w, .int .i64 zr.h] 27 ∧ w.heap.size < bx) := by
      have q1 := HB0.out.1.trans (hb1.mono HB0.out.1.size)
      have q2 : Below w1.heap.size w1 W := by rw [hW]; exact (Below.refl _ w1).alloc (Nat.le_refl _) _
      refine ⟨q1.trans (q2.mono q1.size), (HB0.out.2.below hb1).below q2, by rw [hW, hbx]; exact Bk.new _ _ _, ?_⟩
      rw [hbx]
      exact (HB0.out.2.below hb1).lt
    clear hb1
    go_wp2_with fail
    rw [← hW, ← hbx]
    have hwb : w.heap.size < bx := HB1.out.2.2.2
    clear hW hbx
    go_loopw [16] (fun i wr => ∃ k : Nat, k ≤ a.length ∧ i = .int .i64 k ∧ Below w.heap.size w wr ∧ Bk wr w.heap.size #[.int .i64 0, .int .i64 0, .int .i64 0, .int .i64 0] 27 ∧ Bk wr bx #[.int .i64 (bndF (a.take k)).x, .int .i64 (bndF (a.take k)).y, .int .i64 (bndF (a.take k)).w, .int .i64 (bndF (a.take k)).h] 27) (fun i _ => a.length - (intOf i).toNat)
    case atStart => exact ⟨0, Nat.zero_le _, rfl, HB1.out.1, HB1.out.2.1, HB1.out.2.2.1⟩
    case round =>
      obtain ⟨k, hk, rfl, L, B0, B1⟩ := hrel
      by_cases hlt : k < a.length
      · obtain ⟨g, o, rfl, hg, hat⟩ := HG.out (by omega)
        obtain ⟨x0, x1, x2, x3⟩ := (hat k hlt).kept (w' := wr) fun j => L.cell (p := ⟨g, j, none⟩) hg
        have e1 : a.take (k + 1) = a.take k ++ [a[k]] := (List.take_append_getElem hlt).symm
        have hnr := HM.out _ (List.getElem_mem hlt)
        have hnp : Near (bndF (a.take k)) := near_bnd fun r hr => HM.out r (List.mem_of_mem_take hr)
        have HN : Hid (bndF (a.take (k + 1)) = jnR (bndF (a.take k)) a[k]) := by unfold Hid bndF; rw [e1, List.foldl_append]; rfl
        generalize a[k] = x at *
        generalize bndF (a.take k) = p at *
        have HJ : Hid (∀ w, Calls Try.prog 83 #[.agg #[.int .i64 p.x, .int .i64 p.y, .int .i64 p.w, .int .i64 p.h], .agg #[.int .i64 x.x, .int .i64 x.y, .int .i64 x.w, .int .i64 x.h]] w fun e w' => e = .returned (.agg #[.int .i64 (jnR p x).x, .int .i64 (jnR p x).y, .int .i64 (jnR p x).w, .int .i64 (jnR p x).h]) ∧ Below w.heap.size w w') := fun w => join_any _ _ _ _ _ _ _ _ w (near_i64 hnp).1 (near_i64 hnp).2 (near_i64 hnr).1 (near_i64 hnr).2
        generalize jnR p x = q at *
        have HB2 : Hid (Below w.heap.size w (wr.alloc (.cells #[.int .i64 x.x, .int .i64 x.y, .int .i64 x.w, .int .i64 x.h] 27)) ∧ Bk (wr.alloc (.cells #[.int .i64 x.x, .int .i64 x.y, .int .i64 x.w, .int .i64 x.h] 27)) w.heap.size #[.int .i64 0, .int .i64 0, .int .i64 0, .int .i64 0] 27 ∧ Bk (wr.alloc (.cells #[.int .i64 x.x, .int .i64 x.y, .int .i64 x.w, .int .i64 x.h] 27)) bx #[.int .i64 p.x, .int .i64 p.y, .int .i64 p.w, .int .i64 p.h] 27) := by
          have hb : Below wr.heap.size wr (wr.alloc (.cells #[.int .i64 x.x, .int .i64 x.y, .int .i64 x.w, .int .i64 x.h] 27)) := (Below.refl _ wr).alloc (Nat.le_refl _) _
          exact ⟨L.trans (hb.mono L.size), B0.below hb, B1.below hb⟩
        obtain ⟨y0, y1, y2, y3⟩ := B1.at4r
        have hbl := B1.lt
        clear hat e1 L B0 B1 hnr hnp
        go_wp2_with fail
        refine (HJ.out _).mono ?_
        rintro e w4 ⟨rfl, hb4⟩
        have HB4 : Hid (Below w.heap.size w w4 ∧ Bk w4 w.heap.size #[.int .i64 0, .int .i64 0, .int .i64 0, .int .i64 0] 27 ∧ Bk w4 bx #[.int .i64 p.x, .int .i64 p.y, .int .i64 p.w, .int .i64 p.h] 27) := ⟨HB2.out.1.trans (hb4.mono HB2.out.1.size), HB2.out.2.1.below hb4, HB2.out.2.2.below hb4⟩
        clear hb4 x0 x1 x2 x3 y0 y1 y2 y3
        obtain ⟨z0, z1, z2, z3⟩ := HB4.out.2.2.at4r
        have f0 := HB4.out.2.2.frozen 0
        have f1 := HB4.out.2.2.frozen 1
        have f2 := HB4.out.2.2.frozen 2
        have f3 := HB4.out.2.2.frozen 3
        have HRel : Hid (∃ k' : Nat, k' ≤ a.length ∧ Value.int .i64 ((k : Int) + 1) = .int .i64 k' ∧ Below w.heap.size w ((((w4.setCell ⟨bx, 0, none⟩ (.int .i64 q.x)).setCell ⟨bx, 1, none⟩ (.int .i64 q.y)).setCell ⟨bx, 2, none⟩ (.int .i64 q.w)).setCell ⟨bx, 3, none⟩ (.int .i64 q.h)) ∧ Bk ((((w4.setCell ⟨bx, 0, none⟩ (.int .i64 q.x)).setCell ⟨bx, 1, none⟩ (.int .i64 q.y)).setCell ⟨bx, 2, none⟩ (.int .i64 q.w)).setCell ⟨bx, 3, none⟩ (.int .i64 q.h)) w.heap.size #[.int .i64 0, .int .i64 0, .int .i64 0, .int .i64 0] 27 ∧ Bk ((((w4.setCell ⟨bx, 0, none⟩ (.int .i64 q.x)).setCell ⟨bx, 1, none⟩ (.int .i64 q.y)).setCell ⟨bx, 2, none⟩ (.int .i64 q.w)).setCell ⟨bx, 3, none⟩ (.int .i64 q.h)) bx #[.int .i64 (bndF (a.take k')).x, .int .i64 (bndF (a.take k')).y, .int .i64 (bndF (a.take k')).w, .int .i64 (bndF (a.take k')).h] 27) :=
          ⟨k + 1, by omega, by go_num, below4r HB4.out.1 (by omega) _ _ _ _, HB4.out.2.1.off4r (by omega) _ _ _ _, by rw [HN.out]; exact HB4.out.2.2.put4r _ _ _ _⟩
        go_wp2
        exact ⟨HRel.out, by simp [intOf]; omega⟩
      · obtain rfl : k = a.length := by omega
        rw [List.take_length, ← HT.out] at B1
        obtain ⟨y0, y1, y2, y3⟩ := B1.at4r
        obtain ⟨z0, z1, z2, z3⟩ := B0.at4r
        have f0 := B0.frozen 0
        have f1 := B0.frozen 1
        have f2 := B0.frozen 2
        have f3 := B0.frozen 3
        have HF : Hid (Below w.heap.size w ((((wr.setCell ⟨w.heap.size, 0, none⟩ (.int .i64 T.x)).setCell ⟨w.heap.size, 1, none⟩ (.int .i64 T.y)).setCell ⟨w.heap.size, 2, none⟩ (.int .i64 T.w)).setCell ⟨w.heap.size, 3, none⟩ (.int .i64 T.h)) ∧ Bk ((((wr.setCell ⟨w.heap.size, 0, none⟩ (.int .i64 T.x)).setCell ⟨w.heap.size, 1, none⟩ (.int .i64 T.y)).setCell ⟨w.heap.size, 2, none⟩ (.int .i64 T.w)).setCell ⟨w.heap.size, 3, none⟩ (.int .i64 T.h)) w.heap.size #[.int .i64 T.x, .int .i64 T.y, .int .i64 T.w, .int .i64 T.h] 27) := ⟨below4r L (Nat.le_refl _) _ _ _ _, B0.put4r _ _ _ _⟩
        clear L B0 B1
        obtain ⟨c0, c1, c2, c3⟩ := HF.out.2.at4r
        go_wp2
        exact bodyPost_ret (v := .tuple #[.agg #[.int .i64 T.x, .int .i64 T.y, .int .i64 T.w, .int .i64 T.h], .int .i64 0]) (by simp [results, Try.results65, go_sem, c0, c1, c2, c3]) rfl ⟨rfl, HF.out.1⟩
  · rw [if_neg h0]
    generalize lisE a = ea at *
    have h1 : (ea != 0) = true := by simp [h0]
    clear ha ia h0
    go_enter Try.func65, Try.ntmps65
    go_wp2_with fail
    refine (H1.out _ HB0.out.1).mono ?_
    rintro e w1 ⟨rfl, hb1⟩
    have HB1 : Hid (Below w.heap.size w w1 ∧ Bk w1 w.heap.size #[.int .i64 0, .int .i64 0, .int .i64 0, .int .i64 0] 27) := ⟨HB0.out.1.trans (hb1.mono HB0.out.1.size), HB0.out.2.below hb1⟩
    clear hb1
    obtain ⟨z0, z1, z2, z3⟩ := HB1.out.2.at4r
    have f0 := HB1.out.2.frozen 0
    have f1 := HB1.out.2.frozen 1
    have f2 := HB1.out.2.frozen 2
    have f3 := HB1.out.2.frozen 3
    have HF : Hid (Below w.heap.size w ((((w1.setCell ⟨w.heap.size, 0, none⟩ (.int .i64 0)).setCell ⟨w.heap.size, 1, none⟩ (.int .i64 0)).setCell ⟨w.heap.size, 2, none⟩ (.int .i64 0)).setCell ⟨w.heap.size, 3, none⟩ (.int .i64 0)) ∧ Bk ((((w1.setCell ⟨w.heap.size, 0, none⟩ (.int .i64 0)).setCell ⟨w.heap.size, 1, none⟩ (.int .i64 0)).setCell ⟨w.heap.size, 2, none⟩ (.int .i64 0)).setCell ⟨w.heap.size, 3, none⟩ (.int .i64 0)) w.heap.size #[.int .i64 0, .int .i64 0, .int .i64 0, .int .i64 0] 27) := ⟨below4r HB1.out.1 (Nat.le_refl _) _ _ _ _, HB1.out.2.put4r _ _ _ _⟩
    obtain ⟨c0, c1, c2, c3⟩ := HF.out.2.at4r
    go_wp2
    exact bodyPost_ret (v := .tuple #[.agg #[.int .i64 0, .int .i64 0, .int .i64 0, .int .i64 0], .int .i64 ea]) (by simp [results, Try.results65, go_sem, c0, c1, c2, c3]) rfl ⟨rfl, HF.out.1⟩

end Go.Proofs.Ytbghjmkgicdnoaa

/-
  What opaque Fills hide, the last stroke first, in plain words: it is what the document says.
-/
namespace Go.Proofs.Ytbghjmkgicdnoaa

/-- Has one rectangle all of another one? -/
def covB (a b : Rc) : Bool := decide (a.x ≤ b.x) && (decide (a.y ≤ b.y) && (decide (b.x + b.w ≤ a.x + a.w) && decide (b.y + b.h ≤ a.y + a.h)))
theorem cov_iff {a b : Rc} : covB a b = true ↔ a.x ≤ b.x ∧ a.y ≤ b.y ∧ b.x + b.w ≤ a.x + a.w ∧ b.y + b.h ≤ a.y + a.h := by
  unfold covB
  simp
theorem cov_trans {a b c : Rc} (h1 : covB a b = true) (h2 : covB b c = true) : covB a c = true := by
  rw [cov_iff] at *
  omega
theorem cov_self (a : Rc) : covB a a = true := by rw [cov_iff]; omega
theorem in_cov {a q : Rc} (ha : zEm a = false) : zIn a q = true ↔ (zEm q = false ∧ covB q a = true) := by
  cases hq : zEm q
  · unfold zIn
    unfold zEm at ha hq
    rw [in_iff hq ha, cov_iff]
    constructor
    · intro h; exact ⟨rfl, by omega⟩
    · intro h; omega
  · constructor
    · intro h
      unfold zIn inB at h
      have e : zMe a q = zr := me_nil (.inr hq)
      unfold zMe at e
      unfold zEm at ha
      rw [ha, e, Bool.false_or] at h
      have h2 := bounds_of ha
      unfold eqB zr at h
      simp at h
      omega
    · rintro ⟨h, _⟩
      cases h
theorem jn_ne {p r : Rc} (hp : zEm p = false) (hr : zEm r = false) : zEm (jnR p r) = false ∧ ∀ X, covB X (jnR p r) = (covB X p && covB X r) := by
  have e : jnR p r = btw (min p.x r.x) (min p.y r.y) (max (p.x + p.w) (r.x + r.w)) (max (p.y + p.h) (r.y + r.h)) := by
    unfold jnR joinR
    unfold zEm at hp hr
    rw [hp, hr]
    rfl
  obtain ⟨a1, a2, a3, a4, a5, a6⟩ := em_bd hp
  obtain ⟨b1, b2, b3, b4, b5, b6⟩ := em_bd hr
  rw [btw_yes (by omega) (by omega)] at e
  rw [e]
  refine ⟨em_mk (by simp only; omega) (by simp only; omega) (by simp only; omega) (by simp only; omega) (by simp only; omega) (by simp only; omega), fun X => ?_⟩
  rw [Bool.eq_iff_iff, Bool.and_eq_true, cov_iff, cov_iff, cov_iff]
  simp only
  omega
theorem jn_zr {r : Rc} (hr : zEm r = false) : jnR zr r = r := by
  unfold jnR joinR
  have h : emptyB zr.x zr.y zr.w zr.h = true := em_zr
  unfold zEm at hr
  rw [h, hr]
  rfl
theorem fold_cov : ∀ (L : List Rc) (p : Rc), zEm p = false → (∀ a ∈ L, zEm a = false) → zEm (L.foldl jnR p) = false ∧ ∀ X, covB X (L.foldl jnR p) = (covB X p && L.all fun a => covB X a)
  | [], p, hp, _ => ⟨hp, fun X => by simp⟩
  | r :: L, p, hp, h => by
    obtain ⟨e1, e2⟩ := jn_ne hp (h r (by simp))
    obtain ⟨f1, f2⟩ := fold_cov L (jnR p r) e1 fun a ha => h a (by simp [ha])
    refine ⟨f1, fun X => ?_⟩
    show covB X (L.foldl jnR (jnR p r)) = _
    rw [f2, e2, List.all_cons, Bool.and_assoc]
/-- The least rectangle about pieces that are not empty. -/
theorem bnd_cov {L : List Rc} (h0 : L ≠ []) (h : ∀ a ∈ L, zEm a = false) : zEm (bndF L) = false ∧ ∀ X, covB X (bndF L) = L.all fun a => covB X a := by
  cases L with
  | nil => exact absurd rfl h0
  | cons r L =>
    have e : bndF (r :: L) = L.foldl jnR r := by
      show L.foldl jnR (jnR zr r) = _
      rw [jn_zr (h r (by simp))]
    rw [e]
    obtain ⟨f1, f2⟩ := fold_cov L r (h r (by simp)) fun a ha => h a (by simp [ha])
    exact ⟨f1, fun X => by rw [f2, List.all_cons]⟩
theorem bnd_one {r : Rc} (h : zEm r = false) : bndF [r] = r := by
  show jnR zr r = r
  exact jn_zr h

theorem plc_ne (s : St) (r : Rc) : ∀ a ∈ plc s r, zEm a = false := by
  intro a ha
  unfold plc at ha
  split at ha
  · cases ha
  · next h1 =>
    split at ha
    · have := (List.mem_filter.1 ha).2
      simpa using this
    · have h2 : a = r := by simpa using ha
      rw [h2]
      unfold noP at h1
      cases e : zEm r
      · rfl
      · rw [e] at h1; simp at h1
theorem plc_drw {s : St} (r : Rc) (h : drw s = false) : plc s r = [] := by
  unfold plc noP
  rw [h]
  simp
theorem plc_opq {s : St} {r : Rc} (h : opq s = true) : drw s = true ∧ plc s r = if zEm r = true then [] else [r] := by
  unfold opq at h
  rw [Bool.and_eq_true] at h
  have k : s.k = 1 := by simpa using h.1
  have a : s.c.a = 255 := by simpa using h.2
  have hd : drw s = true := by unfold drw; rw [k]; rfl
  refine ⟨hd, ?_⟩
  unfold plc noP
  rw [hd]
  cases e : zEm r <;> simp [k, a]

/-- Is a stroke seen, ahead of Fills? -/
def vqB (p : St × Rc) (F : List Rc) : Bool := !((plc p.1 p.2).isEmpty || F.any fun f => covB f (bndF (plc p.1 p.2)))
/-- The Fills that are kept. -/
def vfL (p : St × Rc) (F : List Rc) : List Rc := if (vqB p F && opq p.1) = true then (F.filter fun f => !covB (bndF (plc p.1 p.2)) f) ++ [bndF (plc p.1 p.2)] else F
def visF : List (St × Rc) → List Rc
  | [] => []
  | p :: t => vfL p (visF t)
def visB : List (St × Rc) → List Bool
  | [] => []
  | p :: t => vqB p (visF t) :: visB t
theorem vis_inv : ∀ t : List (St × Rc), (∀ f ∈ visF t, ∃ q ∈ t, opq q.1 = true ∧ f = q.2 ∧ zEm f = false) ∧ (∀ q ∈ t, opq q.1 = true → zEm q.2 = false → ∃ f ∈ visF t, covB f q.2 = true)
  | [] => ⟨fun f hf => (by cases hf), fun q hq => (by cases hq)⟩
  | p :: t => by
    obtain ⟨i1, i2⟩ := vis_inv t
    unfold visF vfL
    by_cases h : (vqB p (visF t) && opq p.1) = true
    · rw [if_pos h]
      obtain ⟨h1, h2⟩ := Bool.and_eq_true_iff.1 h
      obtain ⟨h3, h4⟩ := plc_opq (r := p.2) h2
      have hz : zEm p.2 = false := by
        cases e : zEm p.2
        · rfl
        · rw [if_pos e] at h4
          unfold vqB at h1
          rw [h4] at h1
          simp at h1
      rw [if_neg (by rw [hz]; simp)] at h4
      have hb : bndF (plc p.1 p.2) = p.2 := by rw [h4]; exact bnd_one hz
      rw [hb]
      constructor
      · intro f hf
        rcases List.mem_append.1 hf with hf | hf
        · obtain ⟨q, hq, r⟩ := i1 f (List.mem_filter.1 hf).1
          exact ⟨q, by simp [hq], r⟩
        · have e : f = p.2 := by simpa using hf
          exact ⟨p, by simp, h2, e, by rw [e]; exact hz⟩
      · intro q hq ho hne
        rcases List.mem_cons.1 hq with rfl | hq
        · exact ⟨q.2, by simp, cov_self _⟩
        · obtain ⟨f, hf, hc⟩ := i2 q hq ho hne
          cases e : covB p.2 f
          · exact ⟨f, List.mem_append.2 (.inl (List.mem_filter.2 ⟨hf, by rw [e]; rfl⟩)), hc⟩
          · exact ⟨p.2, by simp, cov_trans e hc⟩
    · rw [if_neg h]
      constructor
      · intro f hf
        obtain ⟨q, hq, r⟩ := i1 f hf
        exact ⟨q, by simp [hq], r⟩
      · intro q hq ho hne
        rcases List.mem_cons.1 hq with rfl | hq
        · have h1 : vqB q (visF t) = false := by
            cases e : vqB q (visF t)
            · rfl
            · rw [e, ho] at h; simp at h
          obtain ⟨h3, h4⟩ := plc_opq (r := q.2) ho
          rw [if_neg (by rw [hne]; simp)] at h4
          unfold vqB at h1
          rw [h4, bnd_one hne] at h1
          simp only [List.isEmpty_cons, Bool.false_or, Bool.not_eq_false', List.any_eq_true] at h1
          exact h1
        · exact i2 q hq ho hne
/-- What is seen is what is not hidden. -/
theorem vis_hid (p : St × Rc) (t : List (St × Rc)) (hd : drw p.1 = true) : vqB p (visF t) = !hidB p t := by
  obtain ⟨i1, i2⟩ := vis_inv t
  unfold vqB hidB
  rw [hd, Bool.true_and]
  congr 1
  cases he : (plc p.1 p.2).isEmpty
  · rw [Bool.false_or, Bool.false_or]
    have h0 : plc p.1 p.2 ≠ [] := by intro h; rw [h] at he; cases he
    have hn := plc_ne p.1 p.2
    obtain ⟨b1, b2⟩ := bnd_cov h0 hn
    rw [Bool.eq_iff_iff, List.any_eq_true, List.any_eq_true]
    constructor
    · rintro ⟨f, hf, hc⟩
      obtain ⟨q, hq, ho, e, hz⟩ := i1 f hf
      refine ⟨q, hq, ?_⟩
      rw [b2, List.all_eq_true] at hc
      rw [ho, Bool.true_and, List.all_eq_true]
      intro a ha
      rw [in_cov (hn a ha)]
      rw [← e]
      exact ⟨hz, hc a ha⟩
    · rintro ⟨q, hq, hc⟩
      obtain ⟨ho, hc⟩ := Bool.and_eq_true_iff.1 hc
      rw [List.all_eq_true] at hc
      obtain ⟨a0, ha0⟩ := List.exists_mem_of_ne_nil _ h0
      have hz := ((in_cov (hn a0 ha0)).1 (hc a0 ha0)).1
      obtain ⟨f, hf, hcf⟩ := i2 q hq ho hz
      refine ⟨f, hf, ?_⟩
      rw [b2, List.all_eq_true]
      intro a ha
      exact cov_trans hcf ((in_cov (hn a ha)).1 (hc a ha)).2
  · rfl
/-- What Norm keeps. -/
def kepB (p : St × Rc) (b : Bool) : Bool := b || !drw p.1
theorem vis_kep : ∀ A : List (St × Rc), kepN A = ((A.zip (visB A)).filter fun x => kepB x.1 x.2).map Prod.fst
  | [] => rfl
  | p :: t => by
    unfold kepN visB
    rw [List.zip_cons_cons, List.filter_cons, vis_kep t]
    cases hd : drw p.1
    · have h1 : hidB p t = false := by unfold hidB; rw [hd]; rfl
      have h2 : kepB p (vqB p (visF t)) = true := by unfold kepB; rw [hd]; simp
      rw [h1, if_neg (by simp), if_pos h2]
      rfl
    · have h2 : kepB p (vqB p (visF t)) = !hidB p t := by unfold kepB; rw [hd, vis_hid p t hd]; simp
      cases hh : hidB p t
      · rw [if_neg (by simp), if_pos (by rw [h2, hh]; rfl)]
        rfl
      · rw [if_pos rfl, if_neg (by rw [h2, hh]; simp)]
theorem visB_len : ∀ A : List (St × Rc), (visB A).length = A.length
  | [] => rfl
  | p :: t => by show (visB t).length + 1 = _; rw [visB_len t]; rfl
theorem visF_len : ∀ A : List (St × Rc), (visF A).length ≤ A.length
  | [] => Nat.le_refl _
  | p :: t => by
    have := visF_len t
    unfold visF vfL
    split
    · rw [List.length_append, List.length_cons]
      have h := List.length_filter_le (fun f => !covB (bndF (plc p.1 p.2)) f) (visF t)
      simp
      omega
    · rw [List.length_cons]; omega

end Go.Proofs.Ytbghjmkgicdnoaa

/-
  Contracts of package list: a list cut to a rectangle, told.
-/
namespace Go.Proofs.Ytbghjmkgicdnoaa
open Go.RowKit

/-- What lies there while a list is cut: a row of one's own, the rest as it was. -/
structure CuW (w0 w : World) (ob : Option Nat) (L : List St) (u : Value) (W : World) : Prop where
  fo : OwS w0.heap.size W u L
  fb : Below w0.heap.size w0 W
  fg : w.grownBy W ob
  fu : u.ownBlock = ob ∨ ∀ g, u.ownBlock = some g → w.heap.size ≤ g
theorem CuW.below {w0 w : World} {ob : Option Nat} {L : List St} {u : Value} {W W' : World} (h : CuW w0 w ob L u W) (hb : Below W.heap.size W W') : CuW w0 w ob L u W' :=
  ⟨h.fo.below hb, h.fb.trans (hb.mono h.fb.size), grow_trS h.fg ⟨hb.os, hb.tape, hb.output, hb.size, fun b hb' _ => hb.block b hb'⟩ (.inl rfl), h.fu⟩
theorem CuW.grow {w0 w : World} {ob : Option Nat} {L : List St} {u : Value} {W W' : World} {g n cap : Nat} {x : St} (h : CuW w0 w ob L u W) (h1 : OwS w0.heap.size W' (.slice (some ⟨g, 0, none⟩) n cap) (L ++ [x])) (h2 : W.grownBy W' u.ownBlock) (h3 : u.ownBlock = some g ∨ W.heap.size ≤ g) (hle : w.heap.size ≤ W.heap.size) : CuW w0 w ob (L ++ [x]) (.slice (some ⟨g, 0, none⟩) n cap) W' := by
  refine ⟨h1, h.fb.grown h2 h.fb.size (fun q hq => (row_lt h.fo q hq).1), grow_trS h.fg h2 ?_, ?_⟩
  · exact h.fu
  · rcases h3 with h3 | h3
    · rcases h.fu with h4 | h4
      · left; rw [← h4, h3]; rfl
      · right
        intro q hq
        have e : g = q := by injection hq
        rw [← e]
        exact h4 g h3
    · right
      intro q hq
      have e : g = q := by injection hq
      omega
theorem plc_len4 (s : St) (r : Rc) : (plc s r).length ≤ 4 := by
  unfold plc
  split
  · simp
  · split
    · refine Nat.le_trans (List.length_filter_le _ _) ?_
      simp [sidR]
    · simp
theorem Bk.typS {lo : Nat} {W : World} {u : Value} {L : List St} (h : OwS lo W u L) {g : Nat} (hg : u.ownBlock = some g) {vs : Array Value} (hb : Bk W g vs 27) : False := by
  obtain ⟨_, ⟨h, _⟩ | ⟨g', cap', cur, h, _, hc, _⟩⟩ := h
  · rw [h] at hg; cases hg
  · rw [h] at hg
    injection hg with hg
    subst hg
    have e := hc.symm.trans hb
    injection e with e
    injection e with _ e _
    exact absurd e (by decide)
theorem wit_next {A : List (St × Rc)} {q : Rc} {k : Nat} {p : St × Rc} (hk : k < A.length) (hp : A[k]? = some p) : ((A.take (k + 1)).filter (witP q)).map Prod.fst = ((A.take k).filter (witP q)).map Prod.fst ++ if witP q p = true then [p.1] else [] := by
  have e : A[k] = p := by rw [List.getElem?_eq_getElem hk] at hp; exact Option.some.inj hp
  rw [← List.take_append_getElem hk, List.filter_append, List.map_append, e]
  cases h : witP q p <;> simp [h]

set_option maxRecDepth 20000 in
set_option maxHeartbeats 8000000 in
theorem lcut_any (l : List St) (q : Rc) (vt vl va : Value) (w0 w : World) (hb : Below w0.heap.size w0 w) (hvl : LsS w0 vl l) (hva : RowsR w0 va ((ann [] l).map fun p => plc p.1 p.2)) (ho : OwS w0.heap.size w vt []) (hl : l.length ≤ 16384) (hc0 : clpE 0 l = 0) (hq : zMa q = true) :
    Calls Try.prog 42 #[vt, vl, va, .agg #[.int .i64 q.x, .int .i64 q.y, .int .i64 q.w, .int .i64 q.h]] w fun e w' => ∃ u, e = .returned u ∧ Hid (CuW w0 w vt.ownBlock (cutL (ann [] l) q) u w') := by
  obtain ⟨oa, cap, rfl, hc, hg⟩ := hvl
  obtain ⟨ob, cb, rfl, hcb, hgb⟩ := hva
  obtain ⟨i0, hi, hz0, hz1, hz2⟩ := info_parts info_strokeZ
  obtain ⟨N, hN⟩ : ∃ N, N = l.length := ⟨_, rfl⟩
  have hAl : ((ann [] l).map fun p => plc p.1 p.2).length = N := by rw [List.length_map, ann_len, hN]
  have HA : Hid (∀ k, k < N → ∃ p g o h1 h2 u, (ann [] l)[k]? = some p ∧ Kd p.1 ∧ oa = some ⟨g, o, none⟩ ∧ g < w0.heap.size ∧ StAt w0 g (o + k * 15) p.1 ∧ ob = some ⟨h1, h2, none⟩ ∧ h1 < w0.heap.size ∧ w0.cell? ⟨h1, h2 + k, none⟩ = some u ∧ LsR w0 u (plc p.1 p.2)) := fun k hk => by
    have hll : k < l.length := by omega
    have h' : k < (ann [] l).length := by rw [ann_len]; exact hll
    have e1 : ((ann [] l)[k]).1 = l[k] := by
      have := congrArg (fun L : List St => L[k]?) (ann_fst l [])
      simp only [List.getElem?_map, List.getElem?_eq_getElem h', List.getElem?_eq_getElem hll, Option.map_some, Option.some.injEq] at this
      exact this
    obtain ⟨g, o, e2, e3, e4⟩ := hg (by omega)
    obtain ⟨h1, h2, f2, f3, f4⟩ := hgb (by omega)
    obtain ⟨u, f5, f6, _⟩ := f4 k (by omega)
    rw [List.getElem_map] at f6
    refine ⟨(ann [] l)[k], g, o, h1, h2, u, List.getElem?_eq_getElem h', ?_, e2, e3, ?_, f2, f3, f5, f6⟩
    · rw [e1]; exact kd_one (clp_ones l 0 hc0 _ (List.getElem_mem hll))
    · rw [e1]; exact e4 k hll
  have HAl : Hid ((ann [] l).length = N) := by unfold Hid; rw [ann_len, hN]
  rw [hAl] at hcb ⊢
  rw [← hN] at hc hl ⊢
  clear hg hgb hc0 hN hAl
  obtain ⟨A, hA⟩ : ∃ A, A = ann [] l := ⟨_, rfl⟩
  rw [← hA] at HA HAl ⊢
  clear hA
  obtain ⟨cu, hcu⟩ : ∃ cu, cu = cutL A q := ⟨_, rfl⟩
  have HCU : Hid (cu = cliS q :: ((A.filter (witP q)).map Prod.fst ++ [opeS])) := hcu
  rw [← hcu]
  clear hcu
  obtain ⟨bq, hbq⟩ : ∃ bq, bq = w.heap.size := ⟨_, rfl⟩
  obtain ⟨obk, hobk⟩ : ∃ obk, obk = vt.ownBlock := ⟨_, rfl⟩
  rw [← hobk]
  have HB0 : Hid (Bk (w.alloc (.cells #[.int .i64 q.x, .int .i64 q.y, .int .i64 q.w, .int .i64 q.h] 27)) bq #[.int .i64 q.x, .int .i64 q.y, .int .i64 q.w, .int .i64 q.h] 27 ∧ CuW w0 w obk [] vt (w.alloc (.cells #[.int .i64 q.x, .int .i64 q.y, .int .i64 q.w, .int .i64 q.h] 27))) := by
    refine ⟨by rw [hbq]; exact Bk.new _ _ _, ?_⟩
    have h : CuW w0 w obk [] vt w := ⟨ho, hb, World.grownBy.refl _ _, .inl hobk.symm⟩
    exact h.below ((Below.refl _ _).alloc (Nat.le_refl _) _)
  have HVT : Hid (∀ g, vt.ownBlock = some g → g ≠ bq) := fun g h => by have := (row_lt ho g h).2; omega
  have HQ : Hid (zMa q = true ∧ bq = w.heap.size) := ⟨hq, hbq⟩
  clear ho hb hobk hq
  go_enter Try.func42, Try.ntmps42
  go_upto_region 2 with fail
  rw [← hbq]
  clear hbq
  generalize w.alloc (.cells #[.int .i64 q.x, .int .i64 q.y, .int .i64 q.w, .int .i64 q.h] 27) = w1 at *
  obtain ⟨c0, c1, c2, c3⟩ := HB0.out.1.at4
  have HA1 : Hid (∀ o, (w1.alloc o).ownsRow w0.heap.size 31 15 vt 0 (flatZ []) ∧ w0.heap.size ≤ (w1.alloc o).heap.size) := fun o => ⟨row_below HB0.out.2.fo ((Below.refl _ _).alloc (Nat.le_refl _) _), by have := HB0.out.2.fb.size; simp; omega⟩
  go_wp2_with (at_builtin; refine wpList_append_lies _ rfl _ _ 36 rfl w0.heap.size 31 i0 (.agg #[.int .u8 0, .int .i64 0, .int .i64 0, .int .i64 0, .int .i64 0, .int .u8 0, .int .u8 0, .int .u8 0, .int .u8 0, .int .u8 0, .int .u8 0, .int .u8 0, .int .u8 0, .string ByteArray.empty, .int .i64 0]) 15 72 Try.underlying36 hi hz0 hz1 hz2 rfl (by decide) vt 0 (flatZ []) rfl (HA1.out _).1 _ 1 1 (sCel (cliS q)) rfl rfl (cell_strokeB _ (cliS q) _ _ rfl) (oneZ (cliS q)) (by decide) (by unfold maxLen; omega) (by omega) (HA1.out _).2 _ rfl ?_)
  intro g2 cap2 w2 hown2 hgrow2 hlies2 hg2
  have H2 : Hid (CuW w0 w obk [cliS q] (.slice (some ⟨g2, 0, none⟩) 1 cap2) w2 ∧ Bk w2 bq #[.int .i64 q.x, .int .i64 q.y, .int .i64 q.w, .int .i64 q.h] 27) := by
    have hle : w.heap.size ≤ w1.heap.size := HB0.out.2.fg.size
    refine ⟨(HB0.out.2.below ((Below.refl _ w1).alloc (Nat.le_refl _) _)).grow (L := []) (x := cliS q) ?_ hgrow2 (by rcases hlies2 with h | h; exact .inl h; exact .inr (by simp; omega)) (by simp; omega), Bk.grown (HB0.out.1.below ((Below.refl _ _).alloc (Nat.le_refl _) _)) hgrow2 (fun h => HVT.out _ h rfl)⟩
    exact snocS (L := []) rfl hown2
  have HSz : Hid (w.heap.size ≤ w2.heap.size) := H2.out.1.fg.size
  clear hown2 hgrow2 hlies2 hg2 HA1 HB0 HVT c0 c1 c2 c3
  have H20 : Hid (CuW w0 w obk (cliS q :: ((A.take 0).filter (witP q)).map Prod.fst) (.slice (some ⟨g2, 0, none⟩) 1 cap2) w2 ∧ Bk w2 bq #[.int .i64 q.x, .int .i64 q.y, .int .i64 q.w, .int .i64 q.h] 27) := by simpa using H2
  clear H2
  go_wp2_with fail
  go_loopw [0, 20] (fun u i wr => ∃ k : Nat, i = .int .i64 k ∧ k ≤ N ∧ Hid (CuW w0 w obk (cliS q :: ((A.take k).filter (witP q)).map Prod.fst) u wr ∧ Bk wr bq #[.int .i64 q.x, .int .i64 q.y, .int .i64 q.w, .int .i64 q.h] 27)) (fun _ i _ => N - (intOf i).toNat)
  case atStart => exact ⟨0, rfl, Nat.zero_le _, H20⟩
  case round =>
    clear H20
    obtain ⟨k, rfl, hk, HK⟩ := hrel
    by_cases hlt : k < N
    · have ik : (k : Int) < N := by omega
      obtain ⟨p, g, o, h1, h2, ur, hp, hkd, rfl, hgl, hst, rfl, hhl, hcell, hlr⟩ := HA.out k hlt
      have hx : StAt wr g (o + k * 15) p.1 := hst.kept fun j => HK.out.1.fb.cell (p := ⟨g, j, none⟩) hgl
      have hgw : g < wr.heap.size := Nat.lt_of_lt_of_le hgl HK.out.1.fb.size
      obtain ⟨oR, cR, eR, hcR, -⟩ := id hlr
      subst eR
      have HW : Hid (((A.take (k + 1)).filter (witP q)).map Prod.fst = ((A.take k).filter (witP q)).map Prod.fst ++ if witP q p = true then [p.1] else []) := wit_next (by rw [HAl.out]; exact hlt) hp
      have HWd : Hid (witP q p = (!drw p.1 || (plc p.1 p.2).any fun a => zOv a q)) := rfl
      have HD : Hid (∀ W, Calls Try.prog 40 #[(Value.agg #[.int .u8 p.1.k, .int .i64 p.1.r.x, .int .i64 p.1.r.y, .int .i64 p.1.r.w, .int .i64 p.1.r.h, .int .u8 p.1.c.r, .int .u8 p.1.c.g, .int .u8 p.1.c.b, .int .u8 p.1.c.a, .int .u8 p.1.b.r, .int .u8 p.1.b.g, .int .u8 p.1.b.b, .int .u8 p.1.b.a, .string p.1.t, .int .i64 p.1.n])] W fun e w' => e = .returned (.bool (drw p.1)) ∧ Below W.heap.size W w') := fun W => draws_any p.1 W hkd
      have HR : Hid (∀ W, Below w0.heap.size w0 W → W.cell? ⟨h1, h2 + k, none⟩ = some (.slice oR (plc p.1 p.2).length cR)) := fun W h => (h.cell (p := ⟨h1, h2 + k, none⟩) hhl).trans hcell
      have HCo : Hid (∀ W, Below w0.heap.size w0 W → Bk W bq #[.int .i64 q.x, .int .i64 q.y, .int .i64 q.w, .int .i64 q.h] 27 → Calls Try.prog 53 #[.slice oR (plc p.1 p.2).length cR, .func (.func 70) #[] #[.pointer (some ⟨bq, 0, none⟩)]] W fun e w' => e = .returned (.bool ((plc p.1 p.2).any fun a => zOv a q)) ∧ Below W.heap.size W w') := fun W h hB => cuts_any _ _ q bq W (hlr.below h) hB (fun x hx => by have hz := plc_ne p.1 p.2 x hx; unfold zEm at hz; exact may_of hz) HQ.out.1 (by have := plc_len4 p.1 p.2; omega)
      have hfl : Hid ((cliS q :: ((A.take k).filter (witP q)).map Prod.fst).length ≤ k + 1) := by
        unfold Hid
        rw [List.length_cons, List.length_map]
        have := List.length_filter_le (witP q) (A.take k)
        rw [List.length_take] at this
        omega
      clear hst hcell hlr hcR
      generalize (plc p.1 p.2).any (fun a => zOv a q) = ab at *
      generalize (plc p.1 p.2).length = pl at *
      generalize drw p.1 = db at *
      obtain ⟨bx, hbx⟩ : ∃ bx, bx = wr.heap.size := ⟨_, rfl⟩
      obtain ⟨sx, hsx⟩ : ∃ sx, sx = p.1 := ⟨_, rfl⟩
      rw [← hsx] at hx HD HW
      have HBX : Hid (∀ W, Below (wr.alloc (.cells (#[.int .u8 sx.k, .int .i64 sx.r.x, .int .i64 sx.r.y, .int .i64 sx.r.w, .int .i64 sx.r.h, .int .u8 sx.c.r, .int .u8 sx.c.g, .int .u8 sx.c.b, .int .u8 sx.c.a, .int .u8 sx.b.r, .int .u8 sx.b.g, .int .u8 sx.b.b, .int .u8 sx.b.a, .string sx.t, .int .i64 sx.n]) 31)).heap.size (wr.alloc (.cells (#[.int .u8 sx.k, .int .i64 sx.r.x, .int .i64 sx.r.y, .int .i64 sx.r.w, .int .i64 sx.r.h, .int .u8 sx.c.r, .int .u8 sx.c.g, .int .u8 sx.c.b, .int .u8 sx.c.a, .int .u8 sx.b.r, .int .u8 sx.b.g, .int .u8 sx.b.b, .int .u8 sx.b.a, .string sx.t, .int .i64 sx.n]) 31)) W → Bk W bx (#[.int .u8 sx.k, .int .i64 sx.r.x, .int .i64 sx.r.y, .int .i64 sx.r.w, .int .i64 sx.r.h, .int .u8 sx.c.r, .int .u8 sx.c.g, .int .u8 sx.c.b, .int .u8 sx.c.a, .int .u8 sx.b.r, .int .u8 sx.b.g, .int .u8 sx.b.b, .int .u8 sx.b.a, .string sx.t, .int .i64 sx.n]) 31 ∧ Below wr.heap.size wr W) := fun W h => by
        have h2 : Below wr.heap.size wr (wr.alloc (.cells (#[.int .u8 sx.k, .int .i64 sx.r.x, .int .i64 sx.r.y, .int .i64 sx.r.w, .int .i64 sx.r.h, .int .u8 sx.c.r, .int .u8 sx.c.g, .int .u8 sx.c.b, .int .u8 sx.c.a, .int .u8 sx.b.r, .int .u8 sx.b.g, .int .u8 sx.b.b, .int .u8 sx.b.a, .string sx.t, .int .i64 sx.n]) 31)) := (Below.refl _ _).alloc (Nat.le_refl _) _
        refine ⟨?_, h2.trans (h.mono h2.size)⟩
        rw [hbx]
        exact (Bk.new wr _ _).below h
      have HBU : Hid (∀ g, (u0 : Value).ownBlock = some g → g ≠ bx ∧ g ≠ bq) := fun g h => by
        have h3 := (row_lt HK.out.1.fo g h).2
        refine ⟨by omega, fun e => ?_⟩
        rw [e] at h
        have hty := Bk.typS HK.out.1.fo h HK.out.2
        exact hty
      have HXB : Hid (bx = wr.heap.size) := hbx
      clear hsx hp hkd hbx HA
      obtain ⟨x0, x1, x2, x3, x4, x5, x6, x7, x8, x9, x10, x11, x12, x13, x14⟩ := hx
      obtain ⟨L, hL⟩ : ∃ L, L = cliS q :: ((A.take k).filter (witP q)).map Prod.fst := ⟨_, rfl⟩
      have HL : Hid (cliS q :: ((A.take (k + 1)).filter (witP q)).map Prod.fst = L ++ if witP q p = true then [sx] else []) := by
        unfold Hid
        rw [HW.out, hL]
        rfl
      rw [← hL] at HK hfl
      clear hL HW
      go_wp2_with fail
      rw [← HXB.out]
      refine (HD.out _).mono ?_
      rintro e w3 ⟨rfl, hb3⟩
      obtain ⟨hbk3, hb3⟩ := HBX.out _ hb3
      have H3 : Hid (CuW w0 w obk L u0 w3 ∧ Bk w3 bq #[.int .i64 q.x, .int .i64 q.y, .int .i64 q.w, .int .i64 q.h] 27 ∧ Bk w3 bx (#[.int .u8 sx.k, .int .i64 sx.r.x, .int .i64 sx.r.y, .int .i64 sx.r.w, .int .i64 sx.r.h, .int .u8 sx.c.r, .int .u8 sx.c.g, .int .u8 sx.c.b, .int .u8 sx.c.a, .int .u8 sx.b.r, .int .u8 sx.b.g, .int .u8 sx.b.b, .int .u8 sx.b.a, .string sx.t, .int .i64 sx.n]) 31) := ⟨HK.out.1.below hb3, HK.out.2.below hb3, hbk3⟩
      clear hb3 hbk3 HK HBX x0 x1 x2 x3 x4 x5 x6 x7 x8 x9 x10 x11 x12 x13 x14
      cases db with
      | false =>
        have HWt : Hid (witP q p = true) := by unfold Hid; rw [HWd.out]; rfl
        have cc := H3.out.2.2.cell
        have a0 := cc 0
        have a1 := cc 1
        have a2 := cc 2
        have a3 := cc 3
        have a4 := cc 4
        have a5 := cc 5
        have a6 := cc 6
        have a7 := cc 7
        have a8 := cc 8
        have a9 := cc 9
        have a10 := cc 10
        have a11 := cc 11
        have a12 := cc 12
        have a13 := cc 13
        have a14 := cc 14
        clear cc
        simp only [List.getElem?_toArray, List.getElem?_cons_zero, List.getElem?_cons_succ] at a0 a1 a2 a3 a4 a5 a6 a7 a8 a9 a10 a11 a12 a13 a14
        have HA2 : Hid (∀ o, (w3.alloc o).ownsRow w0.heap.size 31 15 u0 L.length (flatZ L) ∧ w0.heap.size ≤ (w3.alloc o).heap.size) := fun o => ⟨row_below H3.out.1.fo ((Below.refl _ _).alloc (Nat.le_refl _) _), by have := H3.out.1.fb.size; simp; omega⟩
        have hc3 : Hid (L.length + 1 ≤ maxLen) := by have := hfl.out; unfold Hid maxLen; omega
        have hc4 : Hid ((L.length + 1) * 72 ≤ 140737488355328) := by have := hfl.out; unfold Hid; omega
        go_wp2_with (at_builtin; refine wpList_append_lies _ rfl _ _ 36 rfl w0.heap.size 31 i0 (.agg #[.int .u8 0, .int .i64 0, .int .i64 0, .int .i64 0, .int .i64 0, .int .u8 0, .int .u8 0, .int .u8 0, .int .u8 0, .int .u8 0, .int .u8 0, .int .u8 0, .int .u8 0, .string ByteArray.empty, .int .i64 0]) 15 72 Try.underlying36 hi hz0 hz1 hz2 rfl (by decide) u0 L.length (flatZ L) rfl (HA2.out _).1 _ 1 1 (sCel sx) rfl rfl (cell_strokeB _ sx _ _ rfl) (oneZ sx) (by decide) hc3.out hc4.out (HA2.out _).2 _ rfl ?_)
        intro g5 cap5 w5 hown5 hgrow5 hlies5 hg5
        have HRel : Hid (CuW w0 w obk (cliS q :: ((A.take (k + 1)).filter (witP q)).map Prod.fst) (.slice (some ⟨g5, 0, none⟩) (L.length + 1) cap5) w5 ∧ Bk w5 bq #[.int .i64 q.x, .int .i64 q.y, .int .i64 q.w, .int .i64 q.h] 27) := by
          have hle : w.heap.size ≤ w3.heap.size := H3.out.1.fg.size
          rw [HL.out, HWt.out, if_pos rfl]
          refine ⟨(H3.out.1.below ((Below.refl _ w3).alloc (Nat.le_refl _) _)).grow ?_ hgrow5 (by rcases hlies5 with h | h; exact .inl h; exact .inr (by simp; omega)) (by simp; omega), Bk.grown (H3.out.2.1.below ((Below.refl _ _).alloc (Nat.le_refl _) _)) hgrow5 (fun h => (HBU.out _ h).2 rfl)⟩
          exact snocS rfl hown5
        clear hown5 hgrow5 hlies5 hg5 HA2 H3 a0 a1 a2 a3 a4 a5 a6 a7 a8 a9 a10 a11 a12 a13 a14
        go_wp2
        go_roundw
        case rel => exact ⟨k + 1, by go_num, by omega, HRel⟩
        case measure => simp [intOf]; omega
      | true =>
        have hrc := HR.out w3 H3.out.1.fb
        obtain ⟨b0, b1, b2, b3⟩ := H3.out.2.1.at4
        go_wp2_with fail
        refine (HCo.out w3 H3.out.1.fb H3.out.2.1).mono ?_
        rintro e w4 ⟨rfl, hb4⟩
        have H4 : Hid (CuW w0 w obk L u0 w4 ∧ Bk w4 bq #[.int .i64 q.x, .int .i64 q.y, .int .i64 q.w, .int .i64 q.h] 27 ∧ Bk w4 bx (#[.int .u8 sx.k, .int .i64 sx.r.x, .int .i64 sx.r.y, .int .i64 sx.r.w, .int .i64 sx.r.h, .int .u8 sx.c.r, .int .u8 sx.c.g, .int .u8 sx.c.b, .int .u8 sx.c.a, .int .u8 sx.b.r, .int .u8 sx.b.g, .int .u8 sx.b.b, .int .u8 sx.b.a, .string sx.t, .int .i64 sx.n]) 31) := ⟨H3.out.1.below hb4, H3.out.2.1.below hb4, H3.out.2.2.below hb4⟩
        clear hb4 H3 hrc b0 b1 b2 b3
        cases ab with
        | false =>
          have HRel : Hid (CuW w0 w obk (cliS q :: ((A.take (k + 1)).filter (witP q)).map Prod.fst) u0 w4 ∧ Bk w4 bq #[.int .i64 q.x, .int .i64 q.y, .int .i64 q.w, .int .i64 q.h] 27) := by
            have e : witP q p = false := by rw [HWd.out]; rfl
            rw [HL.out, e, if_neg (by simp), List.append_nil]
            exact ⟨H4.out.1, H4.out.2.1⟩
          clear H4
          go_wp2
          go_roundw
          case rel => exact ⟨k + 1, by go_num, by omega, HRel⟩
          case measure => simp [intOf]; omega
        | true =>
          have HWt : Hid (witP q p = true) := by unfold Hid; rw [HWd.out]; rfl
          have cc := H4.out.2.2.cell
          have a0 := cc 0
          have a1 := cc 1
          have a2 := cc 2
          have a3 := cc 3
          have a4 := cc 4
          have a5 := cc 5
          have a6 := cc 6
          have a7 := cc 7
          have a8 := cc 8
          have a9 := cc 9
          have a10 := cc 10
          have a11 := cc 11
          have a12 := cc 12
          have a13 := cc 13
          have a14 := cc 14
          clear cc
          simp only [List.getElem?_toArray, List.getElem?_cons_zero, List.getElem?_cons_succ] at a0 a1 a2 a3 a4 a5 a6 a7 a8 a9 a10 a11 a12 a13 a14
          have HA2 : Hid (∀ o, (w4.alloc o).ownsRow w0.heap.size 31 15 u0 L.length (flatZ L) ∧ w0.heap.size ≤ (w4.alloc o).heap.size) := fun o => ⟨row_below H4.out.1.fo ((Below.refl _ _).alloc (Nat.le_refl _) _), by have := H4.out.1.fb.size; simp; omega⟩
          have hc3 : Hid (L.length + 1 ≤ maxLen) := by have := hfl.out; unfold Hid maxLen; omega
          have hc4 : Hid ((L.length + 1) * 72 ≤ 140737488355328) := by have := hfl.out; unfold Hid; omega
          go_wp2_with (at_builtin; refine wpList_append_lies _ rfl _ _ 36 rfl w0.heap.size 31 i0 (.agg #[.int .u8 0, .int .i64 0, .int .i64 0, .int .i64 0, .int .i64 0, .int .u8 0, .int .u8 0, .int .u8 0, .int .u8 0, .int .u8 0, .int .u8 0, .int .u8 0, .int .u8 0, .string ByteArray.empty, .int .i64 0]) 15 72 Try.underlying36 hi hz0 hz1 hz2 rfl (by decide) u0 L.length (flatZ L) rfl (HA2.out _).1 _ 1 1 (sCel sx) rfl rfl (cell_strokeB _ sx _ _ rfl) (oneZ sx) (by decide) hc3.out hc4.out (HA2.out _).2 _ rfl ?_)
          intro g5 cap5 w5 hown5 hgrow5 hlies5 hg5
          have HRel : Hid (CuW w0 w obk (cliS q :: ((A.take (k + 1)).filter (witP q)).map Prod.fst) (.slice (some ⟨g5, 0, none⟩) (L.length + 1) cap5) w5 ∧ Bk w5 bq #[.int .i64 q.x, .int .i64 q.y, .int .i64 q.w, .int .i64 q.h] 27) := by
            have hle : w.heap.size ≤ w4.heap.size := H4.out.1.fg.size
            rw [HL.out, HWt.out, if_pos rfl]
            refine ⟨(H4.out.1.below ((Below.refl _ w4).alloc (Nat.le_refl _) _)).grow ?_ hgrow5 (by rcases hlies5 with h | h; exact .inl h; exact .inr (by simp; omega)) (by simp; omega), Bk.grown (H4.out.2.1.below ((Below.refl _ _).alloc (Nat.le_refl _) _)) hgrow5 (fun h => (HBU.out _ h).2 rfl)⟩
            exact snocS rfl hown5
          clear hown5 hgrow5 hlies5 hg5 HA2 H4 a0 a1 a2 a3 a4 a5 a6 a7 a8 a9 a10 a11 a12 a13 a14
          go_wp2
          go_roundw
          case rel => exact ⟨k + 1, by go_num, by omega, HRel⟩
          case measure => simp [intOf]; omega
    · obtain rfl : k = N := by omega
      have ik : ¬ (k : Int) < k := by omega
      have e1 : A.take k = A := List.take_of_length_le (by rw [HAl.out]; exact Nat.le_refl _)
      obtain ⟨L, hL⟩ : ∃ L, L = cliS q :: ((A.take k).filter (witP q)).map Prod.fst := ⟨_, rfl⟩
      have HLe : Hid (L ++ [opeS] = cu) := by
        unfold Hid
        rw [hL, e1, HCU.out]
        rfl
      have hfl : Hid (L.length ≤ k + 1) := by
        unfold Hid
        rw [hL, List.length_cons, List.length_map]
        have := List.length_filter_le (witP q) (A.take k)
        rw [List.length_take] at this
        omega
      rw [← hL] at HK
      clear hL e1
      have HA2 : Hid (∀ o, (wr.alloc o).ownsRow w0.heap.size 31 15 u0 L.length (flatZ L) ∧ w0.heap.size ≤ (wr.alloc o).heap.size) := fun o => ⟨row_below HK.out.1.fo ((Below.refl _ _).alloc (Nat.le_refl _) _), by have := HK.out.1.fb.size; simp; omega⟩
      have hc3 : Hid (L.length + 1 ≤ maxLen) := by have := hfl.out; unfold Hid maxLen; omega
      have hc4 : Hid ((L.length + 1) * 72 ≤ 140737488355328) := by have := hfl.out; unfold Hid; omega
      go_wp2_with (at_builtin; refine wpList_append_lies _ rfl _ _ 36 rfl w0.heap.size 31 i0 (.agg #[.int .u8 0, .int .i64 0, .int .i64 0, .int .i64 0, .int .i64 0, .int .u8 0, .int .u8 0, .int .u8 0, .int .u8 0, .int .u8 0, .int .u8 0, .int .u8 0, .int .u8 0, .string ByteArray.empty, .int .i64 0]) 15 72 Try.underlying36 hi hz0 hz1 hz2 rfl (by decide) u0 L.length (flatZ L) rfl (HA2.out _).1 _ 1 1 (sCel opeS) rfl rfl (cell_strokeB _ opeS _ _ rfl) (oneZ opeS) (by decide) hc3.out hc4.out (HA2.out _).2 _ rfl ?_)
      intro g5 cap5 w5 hown5 hgrow5 hlies5 hg5
      have HF : Hid (CuW w0 w obk cu (.slice (some ⟨g5, 0, none⟩) (L.length + 1) cap5) w5) := by
        have hle : w.heap.size ≤ wr.heap.size := HK.out.1.fg.size
        rw [← HLe.out]
        refine (HK.out.1.below ((Below.refl _ wr).alloc (Nat.le_refl _) _)).grow ?_ hgrow5 (by rcases hlies5 with h | h; exact .inl h; exact .inr (by simp; omega)) (by simp; omega)
        exact snocS rfl hown5
      clear hown5 hgrow5 hlies5 hg5 HA2 HK
      go_wp2
      go_ret
      exact ⟨_, rfl, HF⟩

end Go.Proofs.Ytbghjmkgicdnoaa
