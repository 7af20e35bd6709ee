/-
  Texts of this claim, one behind the other: what each is about stands ahead of it.
-/
import Derived.Test.YtbghjmkgicdnoaaGreatK11
import Derived.Test.YtbghjmkgicdnoaaGreatK31
import Derived.Test.YtbghjmkgicdnoaaGreatK35
import Derived.Test.YtbghjmkgicdnoaaGreatK24
import Derived.Test.YtbghjmkgicdnoaaGreatK32
/-
  Contracts of package region: Bound.
-/
namespace Go.Proofs.YtbghjmkgicdnoaaGreat
open Go.RowKit Go.Sort Go.Shelf

theorem Bk.put4r {W : World} {b : Nat} {a0 a1 a2 a3 : Value} {t : TypeId} (h : Bk W b #[a0, a1, a2, a3] t) (v0 v1 v2 v3 : Value) :
    Bk ((((W.setCell ⟨b, 0, none⟩ v0).setCell ⟨b, 1, none⟩ v1).setCell ⟨b, 2, none⟩ v2).setCell ⟨b, 3, none⟩ v3) b #[v0, v1, v2, v3] t := by
  simpa using (((h.put 0 v0).put 1 v1).put 2 v2).put 3 v3
theorem Bk.at4r {W : World} {b : Nat} {a0 a1 a2 a3 : Value} {t : TypeId} (h : Bk W b #[a0, a1, a2, a3] t) : W.cell? ⟨b, 0, none⟩ = some a0 ∧ W.cell? ⟨b, 1, none⟩ = some a1 ∧ W.cell? ⟨b, 2, none⟩ = some a2 ∧ W.cell? ⟨b, 3, none⟩ = some a3 :=
  ⟨by rw [h.cell]; rfl, by rw [h.cell]; rfl, by rw [h.cell]; rfl, by rw [h.cell]; rfl⟩
theorem Bk.off4r {W : World} {b b' : Nat} {vs : Array Value} {t : TypeId} (h : Bk W b vs t) (hb : b' ≠ b) (v0 v1 v2 v3 : Value) : Bk ((((W.setCell ⟨b', 0, none⟩ v0).setCell ⟨b', 1, none⟩ v1).setCell ⟨b', 2, none⟩ v2).setCell ⟨b', 3, none⟩ v3) b vs t :=
  (((h.other _ _ hb).other _ _ hb).other _ _ hb).other _ _ hb
theorem below4r {B b : Nat} {w w1 : World} (L : Below B w w1) (h : B ≤ b) (v0 v1 v2 v3 : Value) : Below B w ((((w1.setCell ⟨b, 0, none⟩ v0).setCell ⟨b, 1, none⟩ v1).setCell ⟨b, 2, none⟩ v2).setCell ⟨b, 3, none⟩ v3) :=
  (((L.setCell (p := ⟨b, 0, none⟩) h v0).setCell (p := ⟨b, 1, none⟩) h v1).setCell (p := ⟨b, 2, none⟩) h v2).setCell (p := ⟨b, 3, none⟩) h v3
/-- The least rectangle about a list. -/
def jnR (p r : Rc) : Rc := joinR p.x p.y p.w p.h r.x r.y r.w r.h
def bndF (l : List Rc) : Rc := l.foldl jnR zr
def Near (r : Rc) : Prop := -16384 ≤ r.x ∧ r.x ≤ 16384 ∧ -16384 ≤ r.y ∧ r.y ≤ 16384
theorem near_i64 {r : Rc} (h : Near r) : I64 r.x ∧ I64 r.y := by unfold Near at h; unfold I64; omega
theorem near_may {r : Rc} (h : mayB r.x r.y r.w r.h = true) : Near r := by
  have := may_iff.1 h
  unfold Near
  omega
theorem near_join {p r : Rc} (hp : Near p) (hr : Near r) : Near (jnR p r) := by
  unfold jnR joinR
  unfold Near at hp hr
  have hz : Near zr := by unfold Near zr; simp
  split
  · split
    · exact hz
    · exact hr
  · split
    · exact hp
    · unfold btw
      split
      · exact hz
      · unfold Near
        dsimp only
        omega
theorem near_bnd {l : List Rc} (h : ∀ r ∈ l, Near r) : Near (bndF l) := by
  unfold bndF
  have hz : Near zr := by unfold Near zr; simp
  generalize zr = p at hz
  induction l generalizing p with
  | nil => exact hz
  | cons r t ih => exact ih (fun q hq => h q (by simp [hq])) _ (near_join hz (h r (by simp)))
def bouR (l : List Rc) : Rc := if lisE l = 0 then bndF l else zr

set_option maxRecDepth 10000 in
set_option maxHeartbeats 4000000 in
theorem boundL_any (a : List Rc) (va : Value) (w : World) (ha : LsR w va a) (ia : I64s a) :
    Calls Tryz.prog 61 #[va] w fun e w' => e = .returned (.tuple #[.agg #[.int .i64 (bouR a).x, .int .i64 (bouR a).y, .int .i64 (bouR a).w, .int .i64 (bouR a).h], .int .i64 (lisE a)]) ∧ Below w.heap.size w w' := by
  have H1 : Hid (∀ W, Below w.heap.size w W → Calls Tryz.prog 44 #[va] W fun e w' => e = .returned (.int .i64 (lisE a)) ∧ Below W.heap.size W w') := fun W h => listed_any a va W (ha.below h) ia
  have HB0 : Hid (Below w.heap.size w (w.alloc (.cells #[.int .i64 0, .int .i64 0, .int .i64 0, .int .i64 0] 44)) ∧ Bk (w.alloc (.cells #[.int .i64 0, .int .i64 0, .int .i64 0, .int .i64 0] 44)) w.heap.size #[.int .i64 0, .int .i64 0, .int .i64 0, .int .i64 0] 44) := ⟨(Below.refl _ w).alloc (Nat.le_refl _) _, Bk.new _ _ _⟩
  unfold bouR
  by_cases h0 : lisE a = 0
  · have hal := (lisE_zero h0).1
    have HM : Hid (∀ r ∈ a, Near r) := fun r hr => near_may ((lisE_zero h0).2 r hr)
    obtain ⟨oa, ca, rfl, hca, hga⟩ := ha
    have HG : Hid (0 < a.length → ∃ g o, oa = some ⟨g, o, none⟩ ∧ g < w.heap.size ∧ ∀ i (h : i < a.length), RcAt w g (o + i * 4) a[i]) := hga
    rw [h0] at H1 ⊢
    rw [if_pos rfl]
    obtain ⟨T, HT⟩ : ∃ T, Hid (T = bndF a) := ⟨_, rfl⟩
    rw [← HT.out]
    clear ia h0 hga
    go_enter Tryz.func61, Tryz.ntmps61
    go_wp2_with fail
    refine (H1.out _ HB0.out.1).mono ?_
    rintro e w1 ⟨rfl, hb1⟩
    obtain ⟨bx, hbx⟩ : ∃ bx, bx = w1.heap.size := ⟨_, rfl⟩
    obtain ⟨W, hW⟩ : ∃ W, W = w1.alloc (.cells #[.int .i64 0, .int .i64 0, .int .i64 0, .int .i64 0] 44) := ⟨_, rfl⟩
    have HB1 : Hid (Below w.heap.size w W ∧ Bk W w.heap.size #[.int .i64 0, .int .i64 0, .int .i64 0, .int .i64 0] 44 ∧ Bk W bx #[.int .i64 zr.x, .int .i64 zr.y, .int .i64 zr.w, .int .i64 zr.h] 44 ∧ w.heap.size < bx) := by
      have q1 := HB0.out.1.trans (hb1.mono HB0.out.1.size)
      have q2 : Below w1.heap.size w1 W := by rw [hW]; exact (Below.refl _ w1).alloc (Nat.le_refl _) _
      refine ⟨q1.trans (q2.mono q1.size), (HB0.out.2.below hb1).below q2, by rw [hW, hbx]; exact Bk.new _ _ _, ?_⟩
      rw [hbx]
      exact (HB0.out.2.below hb1).lt
    clear hb1
    go_wp2_with fail
    rw [← hW, ← hbx]
    have hwb : w.heap.size < bx := HB1.out.2.2.2
    clear hW hbx
    go_loopw [16] (fun i wr => ∃ k : Nat, k ≤ a.length ∧ i = .int .i64 k ∧ Below w.heap.size w wr ∧ Bk wr w.heap.size #[.int .i64 0, .int .i64 0, .int .i64 0, .int .i64 0] 44 ∧ Bk wr bx #[.int .i64 (bndF (a.take k)).x, .int .i64 (bndF (a.take k)).y, .int .i64 (bndF (a.take k)).w, .int .i64 (bndF (a.take k)).h] 44) (fun i _ => a.length - (intOf i).toNat)
    case atStart => exact ⟨0, Nat.zero_le _, rfl, HB1.out.1, HB1.out.2.1, HB1.out.2.2.1⟩
    case round =>
      obtain ⟨k, hk, rfl, L, B0, B1⟩ := hrel
      by_cases hlt : k < a.length
      · obtain ⟨g, o, rfl, hg, hat⟩ := HG.out (by omega)
        obtain ⟨x0, x1, x2, x3⟩ := (hat k hlt).kept (w' := wr) fun j => L.cell (p := ⟨g, j, none⟩) hg
        have e1 : a.take (k + 1) = a.take k ++ [a[k]] := (List.take_append_getElem hlt).symm
        have hnr := HM.out _ (List.getElem_mem hlt)
        have hnp : Near (bndF (a.take k)) := near_bnd fun r hr => HM.out r (List.mem_of_mem_take hr)
        have HN : Hid (bndF (a.take (k + 1)) = jnR (bndF (a.take k)) a[k]) := by unfold Hid bndF; rw [e1, List.foldl_append]; rfl
        generalize a[k] = x at *
        generalize bndF (a.take k) = p at *
        have HJ : Hid (∀ w, Calls Tryz.prog 84 #[.agg #[.int .i64 p.x, .int .i64 p.y, .int .i64 p.w, .int .i64 p.h], .agg #[.int .i64 x.x, .int .i64 x.y, .int .i64 x.w, .int .i64 x.h]] w fun e w' => e = .returned (.agg #[.int .i64 (jnR p x).x, .int .i64 (jnR p x).y, .int .i64 (jnR p x).w, .int .i64 (jnR p x).h]) ∧ Below w.heap.size w w') := fun w => join_any _ _ _ _ _ _ _ _ w (near_i64 hnp).1 (near_i64 hnp).2 (near_i64 hnr).1 (near_i64 hnr).2
        generalize jnR p x = q at *
        have HB2 : Hid (Below w.heap.size w (wr.alloc (.cells #[.int .i64 x.x, .int .i64 x.y, .int .i64 x.w, .int .i64 x.h] 44)) ∧ Bk (wr.alloc (.cells #[.int .i64 x.x, .int .i64 x.y, .int .i64 x.w, .int .i64 x.h] 44)) w.heap.size #[.int .i64 0, .int .i64 0, .int .i64 0, .int .i64 0] 44 ∧ Bk (wr.alloc (.cells #[.int .i64 x.x, .int .i64 x.y, .int .i64 x.w, .int .i64 x.h] 44)) bx #[.int .i64 p.x, .int .i64 p.y, .int .i64 p.w, .int .i64 p.h] 44) := by
          have hb : Below wr.heap.size wr (wr.alloc (.cells #[.int .i64 x.x, .int .i64 x.y, .int .i64 x.w, .int .i64 x.h] 44)) := (Below.refl _ wr).alloc (Nat.le_refl _) _
          exact ⟨L.trans (hb.mono L.size), B0.below hb, B1.below hb⟩
        obtain ⟨y0, y1, y2, y3⟩ := B1.at4r
        have hbl := B1.lt
        clear hat e1 L B0 B1 hnr hnp
        go_wp2_with fail
        refine (HJ.out _).mono ?_
        rintro e w4 ⟨rfl, hb4⟩
        have HB4 : Hid (Below w.heap.size w w4 ∧ Bk w4 w.heap.size #[.int .i64 0, .int .i64 0, .int .i64 0, .int .i64 0] 44 ∧ Bk w4 bx #[.int .i64 p.x, .int .i64 p.y, .int .i64 p.w, .int .i64 p.h] 44) := ⟨HB2.out.1.trans (hb4.mono HB2.out.1.size), HB2.out.2.1.below hb4, HB2.out.2.2.below hb4⟩
        clear hb4 x0 x1 x2 x3 y0 y1 y2 y3
        obtain ⟨z0, z1, z2, z3⟩ := HB4.out.2.2.at4r
        have f0 := HB4.out.2.2.frozen 0
        have f1 := HB4.out.2.2.frozen 1
        have f2 := HB4.out.2.2.frozen 2
        have f3 := HB4.out.2.2.frozen 3
        have HRel : Hid (∃ k' : Nat, k' ≤ a.length ∧ Value.int .i64 ((k : Int) + 1) = .int .i64 k' ∧ Below w.heap.size w ((((w4.setCell ⟨bx, 0, none⟩ (.int .i64 q.x)).setCell ⟨bx, 1, none⟩ (.int .i64 q.y)).setCell ⟨bx, 2, none⟩ (.int .i64 q.w)).setCell ⟨bx, 3, none⟩ (.int .i64 q.h)) ∧ Bk ((((w4.setCell ⟨bx, 0, none⟩ (.int .i64 q.x)).setCell ⟨bx, 1, none⟩ (.int .i64 q.y)).setCell ⟨bx, 2, none⟩ (.int .i64 q.w)).setCell ⟨bx, 3, none⟩ (.int .i64 q.h)) w.heap.size #[.int .i64 0, .int .i64 0, .int .i64 0, .int .i64 0] 44 ∧ Bk ((((w4.setCell ⟨bx, 0, none⟩ (.int .i64 q.x)).setCell ⟨bx, 1, none⟩ (.int .i64 q.y)).setCell ⟨bx, 2, none⟩ (.int .i64 q.w)).setCell ⟨bx, 3, none⟩ (.int .i64 q.h)) bx #[.int .i64 (bndF (a.take k')).x, .int .i64 (bndF (a.take k')).y, .int .i64 (bndF (a.take k')).w, .int .i64 (bndF (a.take k')).h] 44) :=
          ⟨k + 1, by omega, by go_num, below4r HB4.out.1 (by omega) _ _ _ _, HB4.out.2.1.off4r (by omega) _ _ _ _, by rw [HN.out]; exact HB4.out.2.2.put4r _ _ _ _⟩
        go_wp2
        exact ⟨HRel.out, by simp [intOf]; omega⟩
      · obtain rfl : k = a.length := by omega
        rw [List.take_length, ← HT.out] at B1
        obtain ⟨y0, y1, y2, y3⟩ := B1.at4r
        obtain ⟨z0, z1, z2, z3⟩ := B0.at4r
        have f0 := B0.frozen 0
        have f1 := B0.frozen 1
        have f2 := B0.frozen 2
        have f3 := B0.frozen 3
        have HF : Hid (Below w.heap.size w ((((wr.setCell ⟨w.heap.size, 0, none⟩ (.int .i64 T.x)).setCell ⟨w.heap.size, 1, none⟩ (.int .i64 T.y)).setCell ⟨w.heap.size, 2, none⟩ (.int .i64 T.w)).setCell ⟨w.heap.size, 3, none⟩ (.int .i64 T.h)) ∧ Bk ((((wr.setCell ⟨w.heap.size, 0, none⟩ (.int .i64 T.x)).setCell ⟨w.heap.size, 1, none⟩ (.int .i64 T.y)).setCell ⟨w.heap.size, 2, none⟩ (.int .i64 T.w)).setCell ⟨w.heap.size, 3, none⟩ (.int .i64 T.h)) w.heap.size #[.int .i64 T.x, .int .i64 T.y, .int .i64 T.w, .int .i64 T.h] 44) := ⟨below4r L (Nat.le_refl _) _ _ _ _, B0.put4r _ _ _ _⟩
        clear L B0 B1
        obtain ⟨c0, c1, c2, c3⟩ := HF.out.2.at4r
        go_wp2
        exact bodyPost_ret (v := .tuple #[.agg #[.int .i64 T.x, .int .i64 T.y, .int .i64 T.w, .int .i64 T.h], .int .i64 0]) (by simp [results, Tryz.results61, go_sem, c0, c1, c2, c3]) rfl ⟨rfl, HF.out.1⟩
  · rw [if_neg h0]
    generalize lisE a = ea at *
    have h1 : (ea != 0) = true := by simp [h0]
    clear ha ia h0
    go_enter Tryz.func61, Tryz.ntmps61
    go_wp2_with fail
    refine (H1.out _ HB0.out.1).mono ?_
    rintro e w1 ⟨rfl, hb1⟩
    have HB1 : Hid (Below w.heap.size w w1 ∧ Bk w1 w.heap.size #[.int .i64 0, .int .i64 0, .int .i64 0, .int .i64 0] 44) := ⟨HB0.out.1.trans (hb1.mono HB0.out.1.size), HB0.out.2.below hb1⟩
    clear hb1
    obtain ⟨z0, z1, z2, z3⟩ := HB1.out.2.at4r
    have f0 := HB1.out.2.frozen 0
    have f1 := HB1.out.2.frozen 1
    have f2 := HB1.out.2.frozen 2
    have f3 := HB1.out.2.frozen 3
    have HF : Hid (Below w.heap.size w ((((w1.setCell ⟨w.heap.size, 0, none⟩ (.int .i64 0)).setCell ⟨w.heap.size, 1, none⟩ (.int .i64 0)).setCell ⟨w.heap.size, 2, none⟩ (.int .i64 0)).setCell ⟨w.heap.size, 3, none⟩ (.int .i64 0)) ∧ Bk ((((w1.setCell ⟨w.heap.size, 0, none⟩ (.int .i64 0)).setCell ⟨w.heap.size, 1, none⟩ (.int .i64 0)).setCell ⟨w.heap.size, 2, none⟩ (.int .i64 0)).setCell ⟨w.heap.size, 3, none⟩ (.int .i64 0)) w.heap.size #[.int .i64 0, .int .i64 0, .int .i64 0, .int .i64 0] 44) := ⟨below4r HB1.out.1 (Nat.le_refl _) _ _ _ _, HB1.out.2.put4r _ _ _ _⟩
    obtain ⟨c0, c1, c2, c3⟩ := HF.out.2.at4r
    go_wp2
    exact bodyPost_ret (v := .tuple #[.agg #[.int .i64 0, .int .i64 0, .int .i64 0, .int .i64 0], .int .i64 ea]) (by simp [results, Tryz.results61, go_sem, c0, c1, c2, c3]) rfl ⟨rfl, HF.out.1⟩

end Go.Proofs.YtbghjmkgicdnoaaGreat

/-
  What opaque Fills hide, the last stroke first, in plain words: it is what the document says.
-/
namespace Go.Proofs.YtbghjmkgicdnoaaGreat

/-- Has one rectangle all of another one? -/
def covB (a b : Rc) : Bool := decide (a.x ≤ b.x) && (decide (a.y ≤ b.y) && (decide (b.x + b.w ≤ a.x + a.w) && decide (b.y + b.h ≤ a.y + a.h)))
theorem cov_iff {a b : Rc} : covB a b = true ↔ a.x ≤ b.x ∧ a.y ≤ b.y ∧ b.x + b.w ≤ a.x + a.w ∧ b.y + b.h ≤ a.y + a.h := by
  unfold covB
  simp
theorem cov_trans {a b c : Rc} (h1 : covB a b = true) (h2 : covB b c = true) : covB a c = true := by
  rw [cov_iff] at *
  omega
theorem cov_self (a : Rc) : covB a a = true := by rw [cov_iff]; omega
theorem in_cov {a q : Rc} (ha : zEm a = false) : zIn a q = true ↔ (zEm q = false ∧ covB q a = true) := by
  cases hq : zEm q
  · unfold zIn
    unfold zEm at ha hq
    rw [in_iff hq ha, cov_iff]
    constructor
    · intro h; exact ⟨rfl, by omega⟩
    · intro h; omega
  · constructor
    · intro h
      unfold zIn inB at h
      have e : zMe a q = zr := me_nil (.inr hq)
      unfold zMe at e
      unfold zEm at ha
      rw [ha, e, Bool.false_or] at h
      have h2 := bounds_of ha
      unfold eqB zr at h
      simp at h
      omega
    · rintro ⟨h, _⟩
      cases h
theorem jn_ne {p r : Rc} (hp : zEm p = false) (hr : zEm r = false) : zEm (jnR p r) = false ∧ ∀ X, covB X (jnR p r) = (covB X p && covB X r) := by
  have e : jnR p r = btw (min p.x r.x) (min p.y r.y) (max (p.x + p.w) (r.x + r.w)) (max (p.y + p.h) (r.y + r.h)) := by
    unfold jnR joinR
    unfold zEm at hp hr
    rw [hp, hr]
    rfl
  obtain ⟨a1, a2, a3, a4, a5, a6⟩ := em_bd hp
  obtain ⟨b1, b2, b3, b4, b5, b6⟩ := em_bd hr
  rw [btw_yes (by omega) (by omega)] at e
  rw [e]
  refine ⟨em_mk (by simp only; omega) (by simp only; omega) (by simp only; omega) (by simp only; omega) (by simp only; omega) (by simp only; omega), fun X => ?_⟩
  rw [Bool.eq_iff_iff, Bool.and_eq_true, cov_iff, cov_iff, cov_iff]
  simp only
  omega
theorem jn_zr {r : Rc} (hr : zEm r = false) : jnR zr r = r := by
  unfold jnR joinR
  have h : emptyB zr.x zr.y zr.w zr.h = true := em_zr
  unfold zEm at hr
  rw [h, hr]
  rfl
theorem fold_cov : ∀ (L : List Rc) (p : Rc), zEm p = false → (∀ a ∈ L, zEm a = false) → zEm (L.foldl jnR p) = false ∧ ∀ X, covB X (L.foldl jnR p) = (covB X p && L.all fun a => covB X a)
  | [], p, hp, _ => ⟨hp, fun X => by simp⟩
  | r :: L, p, hp, h => by
    obtain ⟨e1, e2⟩ := jn_ne hp (h r (by simp))
    obtain ⟨f1, f2⟩ := fold_cov L (jnR p r) e1 fun a ha => h a (by simp [ha])
    refine ⟨f1, fun X => ?_⟩
    show covB X (L.foldl jnR (jnR p r)) = _
    rw [f2, e2, List.all_cons, Bool.and_assoc]
/-- The least rectangle about pieces that are not empty. -/
theorem bnd_cov {L : List Rc} (h0 : L ≠ []) (h : ∀ a ∈ L, zEm a = false) : zEm (bndF L) = false ∧ ∀ X, covB X (bndF L) = L.all fun a => covB X a := by
  cases L with
  | nil => exact absurd rfl h0
  | cons r L =>
    have e : bndF (r :: L) = L.foldl jnR r := by
      show L.foldl jnR (jnR zr r) = _
      rw [jn_zr (h r (by simp))]
    rw [e]
    obtain ⟨f1, f2⟩ := fold_cov L r (h r (by simp)) fun a ha => h a (by simp [ha])
    exact ⟨f1, fun X => by rw [f2, List.all_cons]⟩
theorem bnd_one {r : Rc} (h : zEm r = false) : bndF [r] = r := by
  show jnR zr r = r
  exact jn_zr h

theorem plc_ne (s : St) (r : Rc) : ∀ a ∈ plc s r, zEm a = false := by
  intro a ha
  unfold plc at ha
  split at ha
  · cases ha
  · next h1 =>
    split at ha
    · have := (List.mem_filter.1 ha).2
      simpa using this
    · have h2 : a = r := by simpa using ha
      rw [h2]
      unfold noP at h1
      cases e : zEm r
      · rfl
      · rw [e] at h1; simp at h1
theorem plc_drw {s : St} (r : Rc) (h : drw s = false) : plc s r = [] := by
  unfold plc noP
  rw [h]
  simp
theorem plc_opq {s : St} {r : Rc} (h : opq s = true) : drw s = true ∧ plc s r = if zEm r = true then [] else [r] := by
  unfold opq at h
  rw [Bool.and_eq_true] at h
  have k : s.k = 1 := by simpa using h.1
  have a : s.c.a = 255 := by simpa using h.2
  have hd : drw s = true := by unfold drw; rw [k]; rfl
  refine ⟨hd, ?_⟩
  unfold plc noP
  rw [hd]
  cases e : zEm r <;> simp [k, a]

/-- Is a stroke seen, ahead of Fills? -/
def vqB (p : St × Rc) (F : List Rc) : Bool := !((plc p.1 p.2).isEmpty || F.any fun f => covB f (bndF (plc p.1 p.2)))
/-- The Fills that are kept. -/
def vfL (p : St × Rc) (F : List Rc) : List Rc := if (vqB p F && opq p.1) = true then (F.filter fun f => !covB (bndF (plc p.1 p.2)) f) ++ [bndF (plc p.1 p.2)] else F
def visF : List (St × Rc) → List Rc
  | [] => []
  | p :: t => vfL p (visF t)
def visB : List (St × Rc) → List Bool
  | [] => []
  | p :: t => vqB p (visF t) :: visB t
theorem vis_inv : ∀ t : List (St × Rc), (∀ f ∈ visF t, ∃ q ∈ t, opq q.1 = true ∧ f = q.2 ∧ zEm f = false) ∧ (∀ q ∈ t, opq q.1 = true → zEm q.2 = false → ∃ f ∈ visF t, covB f q.2 = true)
  | [] => ⟨fun f hf => (by cases hf), fun q hq => (by cases hq)⟩
  | p :: t => by
    obtain ⟨i1, i2⟩ := vis_inv t
    unfold visF vfL
    by_cases h : (vqB p (visF t) && opq p.1) = true
    · rw [if_pos h]
      obtain ⟨h1, h2⟩ := Bool.and_eq_true_iff.1 h
      obtain ⟨h3, h4⟩ := plc_opq (r := p.2) h2
      have hz : zEm p.2 = false := by
        cases e : zEm p.2
        · rfl
        · rw [if_pos e] at h4
          unfold vqB at h1
          rw [h4] at h1
          simp at h1
      rw [if_neg (by rw [hz]; simp)] at h4
      have hb : bndF (plc p.1 p.2) = p.2 := by rw [h4]; exact bnd_one hz
      rw [hb]
      constructor
      · intro f hf
        rcases List.mem_append.1 hf with hf | hf
        · obtain ⟨q, hq, r⟩ := i1 f (List.mem_filter.1 hf).1
          exact ⟨q, by simp [hq], r⟩
        · have e : f = p.2 := by simpa using hf
          exact ⟨p, by simp, h2, e, by rw [e]; exact hz⟩
      · intro q hq ho hne
        rcases List.mem_cons.1 hq with rfl | hq
        · exact ⟨q.2, by simp, cov_self _⟩
        · obtain ⟨f, hf, hc⟩ := i2 q hq ho hne
          cases e : covB p.2 f
          · exact ⟨f, List.mem_append.2 (.inl (List.mem_filter.2 ⟨hf, by rw [e]; rfl⟩)), hc⟩
          · exact ⟨p.2, by simp, cov_trans e hc⟩
    · rw [if_neg h]
      constructor
      · intro f hf
        obtain ⟨q, hq, r⟩ := i1 f hf
        exact ⟨q, by simp [hq], r⟩
      · intro q hq ho hne
        rcases List.mem_cons.1 hq with rfl | hq
        · have h1 : vqB q (visF t) = false := by
            cases e : vqB q (visF t)
            · rfl
            · rw [e, ho] at h; simp at h
          obtain ⟨h3, h4⟩ := plc_opq (r := q.2) ho
          rw [if_neg (by rw [hne]; simp)] at h4
          unfold vqB at h1
          rw [h4, bnd_one hne] at h1
          simp only [List.isEmpty_cons, Bool.false_or, Bool.not_eq_false', List.any_eq_true] at h1
          exact h1
        · exact i2 q hq ho hne
/-- What is seen is what is not hidden. -/
theorem vis_hid (p : St × Rc) (t : List (St × Rc)) (hd : drw p.1 = true) : vqB p (visF t) = !hidB p t := by
  obtain ⟨i1, i2⟩ := vis_inv t
  unfold vqB hidB
  rw [hd, Bool.true_and]
  congr 1
  cases he : (plc p.1 p.2).isEmpty
  · rw [Bool.false_or, Bool.false_or]
    have h0 : plc p.1 p.2 ≠ [] := by intro h; rw [h] at he; cases he
    have hn := plc_ne p.1 p.2
    obtain ⟨b1, b2⟩ := bnd_cov h0 hn
    rw [Bool.eq_iff_iff, List.any_eq_true, List.any_eq_true]
    constructor
    · rintro ⟨f, hf, hc⟩
      obtain ⟨q, hq, ho, e, hz⟩ := i1 f hf
      refine ⟨q, hq, ?_⟩
      rw [b2, List.all_eq_true] at hc
      rw [ho, Bool.true_and, List.all_eq_true]
      intro a ha
      rw [in_cov (hn a ha)]
      rw [← e]
      exact ⟨hz, hc a ha⟩
    · rintro ⟨q, hq, hc⟩
      obtain ⟨ho, hc⟩ := Bool.and_eq_true_iff.1 hc
      rw [List.all_eq_true] at hc
      obtain ⟨a0, ha0⟩ := List.exists_mem_of_ne_nil _ h0
      have hz := ((in_cov (hn a0 ha0)).1 (hc a0 ha0)).1
      obtain ⟨f, hf, hcf⟩ := i2 q hq ho hz
      refine ⟨f, hf, ?_⟩
      rw [b2, List.all_eq_true]
      intro a ha
      exact cov_trans hcf ((in_cov (hn a ha)).1 (hc a ha)).2
  · rfl
/-- What Norm keeps. -/
def kepB (p : St × Rc) (b : Bool) : Bool := b || !drw p.1
theorem vis_kep : ∀ A : List (St × Rc), kepN A = ((A.zip (visB A)).filter fun x => kepB x.1 x.2).map Prod.fst
  | [] => rfl
  | p :: t => by
    unfold kepN visB
    rw [List.zip_cons_cons, List.filter_cons, vis_kep t]
    cases hd : drw p.1
    · have h1 : hidB p t = false := by unfold hidB; rw [hd]; rfl
      have h2 : kepB p (vqB p (visF t)) = true := by unfold kepB; rw [hd]; simp
      rw [h1, if_neg (by simp), if_pos h2]
      rfl
    · have h2 : kepB p (vqB p (visF t)) = !hidB p t := by unfold kepB; rw [hd, vis_hid p t hd]; simp
      cases hh : hidB p t
      · rw [if_neg (by simp), if_pos (by rw [h2, hh]; rfl)]
        rfl
      · rw [if_pos rfl, if_neg (by rw [h2, hh]; simp)]
theorem visB_len : ∀ A : List (St × Rc), (visB A).length = A.length
  | [] => rfl
  | p :: t => by show (visB t).length + 1 = _; rw [visB_len t]; rfl
theorem visF_len : ∀ A : List (St × Rc), (visF A).length ≤ A.length
  | [] => Nat.le_refl _
  | p :: t => by
    have := visF_len t
    unfold visF vfL
    split
    · rw [List.length_append, List.length_cons]
      have h := List.length_filter_le (fun f => !covB (bndF (plc p.1 p.2)) f) (visF t)
      simp
      omega
    · rw [List.length_cons]; omega

end Go.Proofs.YtbghjmkgicdnoaaGreat

/-
  Contracts of package list: Bound.
-/
namespace Go.Proofs.YtbghjmkgicdnoaaGreat
open Go.RowKit

theorem plA_flat (A : List (St × Rc)) : (A.map fun p => plc p.1 p.2).flatten = plA A := by
  unfold plA
  rw [List.flatMap_def]
theorem plc_may (s : St) (r : Rc) : ∀ x ∈ plc s r, zMa x = true := by
  intro x hx
  have h := plc_ne s r x hx
  unfold zEm at h
  exact may_of h

set_option maxRecDepth 20000 in
set_option maxHeartbeats 8000000 in
theorem lbound_any (l : List St) (v : Value) (w : World) (hv : LsS w v l) (ht : Txs l) (hxy : Xys l) (hca : ∀ s ∈ l, 0 ≤ s.c.a) :
    Calls Tryz.prog 9 #[v] w fun e w' => Ans w (bouL l) (bouE l) e w' := by
  have HC : Hid (Calls Tryz.prog 11 #[v] w fun e w' => e = .returned (.int .i64 (chkS l)) ∧ Below w.heap.size w w') := lcheck_any l v w hv ht hxy
  unfold Ans
  by_cases h0 : chkS l = 0
  case neg =>
    have e1 : bouL l = [] := by unfold bouL; rw [if_neg h0]
    have e2 : bouE l = chkS l := by unfold bouE; rw [if_neg h0]
    rw [e1, e2]
    have hne : (chkS l != 0) = true := by simp [h0]
    clear h0 hv ht hxy hca e1 e2
    generalize chkS l = ce at *
    go_enter Tryz.func9, Tryz.ntmps9
    go_wp2_with fail
    refine HC.out.mono ?_
    rintro e w1 ⟨rfl, hb⟩
    have H1 : Hid (Below w.heap.size w w1) := hb
    clear hb
    go_wp2
    go_ret2
    exact ⟨_, rfl, World.ownsRow_nil _ _ _ _, H1.out⟩
  case pos =>
    obtain ⟨hl, hcl⟩ := chkS_zero h0
    have e1 : bouL l = ansL (lisE (plA (ann [] l))) (formF false (plA (ann [] l)) []) := by unfold bouL; rw [if_pos h0]
    have e2 : bouE l = ansE (lisE (plA (ann [] l))) (formF false (plA (ann [] l)) []) := by unfold bouE; rw [if_pos h0]
    rw [e1, e2]
    rw [h0] at HC
    have HP : Hid (∀ W, Below w.heap.size w W → Calls Tryz.prog 28 #[v] W fun e w' => ∃ u, e = .returned u ∧ Hid (RowsR w' u ((ann [] l).map fun p => plc p.1 p.2) ∧ Below W.heap.size W w')) := fun W h => lpieces_any l v W (hv.below h) hl hcl hca
    have hpl := plA_len (ann [] l)
    rw [ann_len] at hpl
    have HCo : Hid (∀ u W, RowsR W u ((ann [] l).map fun p => plc p.1 p.2) → Calls Tryz.prog 27 #[u] W fun e w' => ∃ u, e = .returned u ∧ Hid (OwR W.heap.size w' u (plA (ann [] l)) ∧ Below W.heap.size W w')) := fun u W h => by
      refine (concR_any _ u W h (by rw [List.length_map, ann_len]; omega) (by rw [plA_flat]; omega)).mono ?_
      rintro e w' ⟨u', rfl, h1, h2⟩
      rw [plA_flat] at h1
      exact ⟨u', rfl, h1, h2⟩
    have hI : I64s (plA (ann [] l)) := fun x hx => by
      unfold plA at hx
      obtain ⟨p, hp, hx⟩ := List.mem_flatMap.1 hx
      have h := plc_ne p.1 p.2 x hx
      have hb := bounds_of h
      exact ⟨i64_near ⟨hb.1, hb.2.1⟩, i64_near ⟨hb.2.2.1, hb.2.2.2.1⟩⟩
    have HOf : Hid (∀ u W, LsR W u (plA (ann [] l)) → Calls Tryz.prog 26 #[u] W fun e w' => Ans W (ansL (lisE (plA (ann [] l))) (formF false (plA (ann [] l)) [])) (ansE (lisE (plA (ann [] l))) (formF false (plA (ann [] l)) [])) e w') := fun u W h => of_any _ u W h hI
    generalize ansL (lisE (plA (ann [] l))) (formF false (plA (ann [] l)) []) = RL at *
    generalize ansE (lisE (plA (ann [] l))) (formF false (plA (ann [] l)) []) = RE at *
    generalize plA (ann [] l) = PL at *
    generalize (ann [] l).map (fun p => plc p.1 p.2) = PP at *
    clear h0 hv ht hxy hca e1 e2 hcl hI hpl
    go_enter Tryz.func9, Tryz.ntmps9
    go_wp2_with fail
    refine HC.out.mono ?_
    rintro e w1 ⟨rfl, hb1⟩
    have H1 : Hid (Below w.heap.size w w1) := hb1
    clear hb1
    go_wp2_with fail
    refine (HP.out _ H1.out).mono ?_
    rintro e w2 ⟨u2, rfl, h2⟩
    have H2 : Hid (RowsR w2 u2 PP ∧ Below w.heap.size w w2) := ⟨h2.out.1, H1.out.trans (h2.out.2.mono H1.out.size)⟩
    clear h2
    go_wp2_with fail
    refine (HCo.out u2 w2 H2.out.1).mono ?_
    rintro e w3 ⟨u3, rfl, h3⟩
    have H3 : Hid (LsR w3 u3 PL ∧ Below w.heap.size w w3) := ⟨lsr_own h3.out.1, H2.out.2.trans (h3.out.2.mono H2.out.2.size)⟩
    clear h3
    go_wp2_with fail
    refine (HOf.out u3 w3 H3.out.1).mono ?_
    rintro e w4 ⟨u4, rfl, h4, hb4⟩
    have HF : Hid (w4.ownsRow w.heap.size 44 4 u4 RL.length (flat RL) ∧ Below w.heap.size w w4) := ⟨row_weaken h4 H3.out.2.size, H3.out.2.trans (hb4.mono H3.out.2.size)⟩
    clear h4 hb4
    go_wp2
    go_ret2
    exact ⟨_, rfl, HF.out⟩

end Go.Proofs.YtbghjmkgicdnoaaGreat

/-
  What is asked of package list, and holds: Flat, Bound.
-/
namespace Go.Proofs.YtbghjmkgicdnoaaGreat
open Go.RowKit

theorem Wfs.ca {l : List St} (h : Wfs l) : ∀ s ∈ l, 0 ≤ s.c.a := fun s hs => (h s hs).2.2.1.2.2.2.1
theorem l_flat : LFlat := fun l v w hv hw => lflat_any l v w hv hw.txs hw.xys
theorem l_bound : LBound := fun l v w hv hw => lbound_any l v w hv hw.txs hw.xys hw.ca

end Go.Proofs.YtbghjmkgicdnoaaGreat
