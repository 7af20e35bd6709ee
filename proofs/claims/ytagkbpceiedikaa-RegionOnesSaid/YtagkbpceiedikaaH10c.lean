/-
  Contracts of the document's answer for layer 2: Bound.
-/
import Derived.Test.YtagkbpceiedikaaH9
namespace Go.Proofs.Ytagkbpceiedikaa
open Go.RowKit Go.Shelf
attribute [local go_sem] ite_max ite_min

def anyN (l : List Rc) : Bool := l.any fun r => !emD r
theorem empty_emD {r : Rc} (h : mayB r.x r.y r.w r.h = true) : emptyB r.x r.y r.w r.h = emD r := by
  simp [emptyB, emD, h]
theorem empty_keep {r : Rc} (h : keepE r = true) : emptyB r.x r.y r.w r.h = false := by
  unfold keepE at h
  simpa using h
theorem empty_zr : emptyB zr.x zr.y zr.w zr.h = true := by decide
/-- The union of two that have places. -/
def uniR (p r : Rc) : Rc := ⟨min p.x r.x, min p.y r.y, max (p.x + p.w) (r.x + r.w) - min p.x r.x, max (p.y + p.h) (r.y + r.h) - min p.y r.y⟩
theorem jn_none {p r : Rc} (hm : mayB r.x r.y r.w r.h = true) (he : emD r = true) (hp : p = zr ∨ keepE p = true) : jnR p r = p := by
  unfold jnR joinR
  rw [empty_emD hm, he, if_pos rfl, if_pos rfl]
  rcases hp with rfl | hp
  · rw [if_pos empty_zr]
  · rw [empty_keep hp, if_neg (by simp)]
theorem jn_first {r : Rc} (hm : mayB r.x r.y r.w r.h = true) (he : emD r = false) : jnR zr r = r := by
  unfold jnR joinR
  rw [if_pos empty_zr, empty_emD hm, he, if_neg (by simp)]
theorem jn_two {p r : Rc} (hm : mayB r.x r.y r.w r.h = true) (he : emD r = false) (hp : keepE p = true) : jnR p r = uniR p r ∧ keepE (uniR p r) = true := by
  have hr : keepE r = true := by rw [keep_emD hm, he]; rfl
  have b1 := (keepE_iff p).1 hp
  have b2 := (keepE_iff r).1 hr
  constructor
  · unfold jnR joinR
    rw [empty_keep hp, if_neg (by simp), empty_keep hr, if_neg (by simp)]
    unfold btw
    rw [if_neg (by omega)]
    rfl
  · rw [keepE_iff]
    unfold uniR
    simp only
    omega
theorem bnd_inv : ∀ (k : Nat) (l : List Rc), Mays l → (anyN (l.take k) = false → bndF (l.take k) = zr) ∧ (anyN (l.take k) = true → keepE (bndF (l.take k)) = true)
  | 0, l, _ => ⟨fun _ => rfl, fun h => by simp [anyN] at h⟩
  | k + 1, l, hm => by
    by_cases hk : k < l.length
    · obtain ⟨i1, i2⟩ := bnd_inv k l hm
      have e1 : l.take (k + 1) = l.take k ++ [l[k]] := (List.take_append_getElem hk).symm
      have e2 : bndF (l.take (k + 1)) = jnR (bndF (l.take k)) l[k] := by unfold bndF; rw [e1, List.foldl_append]; rfl
      have e3 : anyN (l.take (k + 1)) = (anyN (l.take k) || !emD l[k]) := by unfold anyN; rw [e1, List.any_append]; simp
      have hr := hm _ (List.getElem_mem hk)
      rw [e2, e3]
      cases hn : anyN (l.take k)
      · rw [i1 hn]
        cases he : emD l[k]
        · rw [jn_first hr he]
          exact ⟨fun h => by simp at h, fun _ => by rw [keep_emD hr, he]; rfl⟩
        · rw [jn_none hr he (.inl rfl)]
          exact ⟨fun _ => rfl, fun h => by simp at h⟩
      · have hp := i2 hn
        cases he : emD l[k]
        · rw [(jn_two hr he hp).1]
          exact ⟨fun h => by simp at h, fun _ => (jn_two hr he hp).2⟩
        · rw [jn_none hr he (.inr hp)]
          exact ⟨fun h => by simp at h, fun _ => hp⟩
    · have e : l.take (k + 1) = l.take k := by rw [List.take_of_length_le (by omega), List.take_of_length_le (by omega)]
      rw [e]
      exact bnd_inv k l hm

set_option maxRecDepth 10000 in
set_option maxHeartbeats 8000000 in
theorem dbound_any (a : List Rc) (va : Value) (w : World) (ha : LsR w va a) :
    Calls Try.prog 35 #[va] w fun e w' => e = .returned (.tuple #[.agg #[.int .i64 (bouR a).x, .int .i64 (bouR a).y, .int .i64 (bouR a).w, .int .i64 (bouR a).h], .int .i64 (lisE a)]) ∧ Below w.heap.size w w' := by
  have H1 : Hid (∀ W, Below w.heap.size w W → Calls Try.prog 62 #[va] W fun e w' => e = .returned (.int .i64 (lisE a)) ∧ Below W.heap.size W w') := fun W h => asked_any a va W (ha.below h)
  have HB0 : Hid (Below w.heap.size w (w.alloc (.cells #[.int .i64 0, .int .i64 0, .int .i64 0, .int .i64 0] 35)) ∧ Bk (w.alloc (.cells #[.int .i64 0, .int .i64 0, .int .i64 0, .int .i64 0] 35)) w.heap.size #[.int .i64 0, .int .i64 0, .int .i64 0, .int .i64 0] 35) := ⟨(Below.refl _ w).alloc (Nat.le_refl _) _, Bk.new _ _ _⟩
  unfold bouR
  by_cases h0 : lisE a = 0
  · have hal := (lisE_zero h0).1
    have HM : Hid (Mays a) := (lisE_zero h0).2
    obtain ⟨oa, ca, rfl, hca, hga⟩ := ha
    have HG : Hid (0 < a.length → ∃ g o, oa = some ⟨g, o, none⟩ ∧ g < w.heap.size ∧ ∀ i (h : i < a.length), RcAt w g (o + i * 4) a[i]) := hga
    rw [h0] at H1 ⊢
    rw [if_pos rfl]
    obtain ⟨T, HT⟩ : ∃ T, Hid (T = bndF a) := ⟨_, rfl⟩
    rw [← HT.out]
    clear h0 hga
    go_enter Try.func35, Try.ntmps35
    go_wp2_with fail
    refine (H1.out _ HB0.out.1).mono ?_
    rintro e w1 ⟨rfl, hb1⟩
    obtain ⟨bx, hbx⟩ : ∃ bx, bx = w1.heap.size := ⟨_, rfl⟩
    obtain ⟨W, hW⟩ : ∃ W, W = w1.alloc (.cells #[.int .i64 0, .int .i64 0, .int .i64 0, .int .i64 0] 35) := ⟨_, rfl⟩
    have HB1 : Hid (Below w.heap.size w W ∧ Bk W w.heap.size #[.int .i64 0, .int .i64 0, .int .i64 0, .int .i64 0] 35 ∧ Bk W bx #[.int .i64 zr.x, .int .i64 zr.y, .int .i64 zr.w, .int .i64 zr.h] 35 ∧ w.heap.size < bx) := by
      have q1 := HB0.out.1.trans (hb1.mono HB0.out.1.size)
      have q2 : Below w1.heap.size w1 W := by rw [hW]; exact (Below.refl _ w1).alloc (Nat.le_refl _) _
      refine ⟨q1.trans (q2.mono q1.size), (HB0.out.2.below hb1).below q2, by rw [hW, hbx]; exact Bk.new _ _ _, ?_⟩
      rw [hbx]
      exact (HB0.out.2.below hb1).lt
    clear hb1
    go_wp2_with fail
    rw [← hW, ← hbx]
    have hwb : w.heap.size < bx := HB1.out.2.2.2
    clear hW hbx
    go_loopw [6, 7] (fun y i wr => ∃ k : Nat, k ≤ a.length ∧ i = .int .i64 k ∧ y = .bool (anyN (a.take k)) ∧ Hid (Below w.heap.size w wr ∧ Bk wr w.heap.size #[.int .i64 0, .int .i64 0, .int .i64 0, .int .i64 0] 35 ∧ Bk wr bx #[.int .i64 (bndF (a.take k)).x, .int .i64 (bndF (a.take k)).y, .int .i64 (bndF (a.take k)).w, .int .i64 (bndF (a.take k)).h] 35)) (fun _ i _ => a.length - (intOf i).toNat)
    case atStart => exact ⟨0, Nat.zero_le _, rfl, rfl, HB1.out.1, HB1.out.2.1, HB1.out.2.2.1⟩
    case round =>
      obtain ⟨k, hk, rfl, rfl, HR⟩ := hrel
      by_cases hlt : k < a.length
      · obtain ⟨g, o, rfl, hg, hat⟩ := HG.out (by omega)
        obtain ⟨x0, x1, x2, x3⟩ := (hat k hlt).kept (w' := wr) fun j => HR.out.1.cell (p := ⟨g, j, none⟩) hg
        have ik : (k : Int) < a.length := by omega
        have e1 : a.take (k + 1) = a.take k ++ [a[k]] := (List.take_append_getElem hlt).symm
        have hmr := HM.out _ (List.getElem_mem hlt)
        have hbr := may_iff.1 hmr
        have HN : Hid (bndF (a.take (k + 1)) = jnR (bndF (a.take k)) a[k] ∧ anyN (a.take (k + 1)) = (anyN (a.take k) || !emD a[k])) := by
          refine ⟨by unfold bndF; rw [e1, List.foldl_append]; rfl, by unfold anyN; rw [e1, List.any_append]; simp⟩
        have HIV : Hid ((anyN (a.take k) = false → bndF (a.take k) = zr) ∧ (anyN (a.take k) = true → keepE (bndF (a.take k)) = true)) := bnd_inv k a HM.out
        have HE : Hid (∀ W, Calls Try.prog 66 #[.agg #[.int .i64 a[k].x, .int .i64 a[k].y, .int .i64 a[k].w, .int .i64 a[k].h]] W fun e w' => e = .returned (.bool (emD a[k])) ∧ Below W.heap.size W w') := fun W => dempty_any a[k] W
        have HMR : Hid (mayB a[k].x a[k].y a[k].w a[k].h = true) := hmr
        clear hat e1 hmr
        generalize a[k] = x at *
        generalize hpp : bndF (a.take k) = p at *
        generalize hnn : anyN (a.take k) = nn at *
        clear hpp hnn
        have HB2 : Hid (∀ W, Below (wr.alloc (.cells #[.int .i64 x.x, .int .i64 x.y, .int .i64 x.w, .int .i64 x.h] 35)).heap.size (wr.alloc (.cells #[.int .i64 x.x, .int .i64 x.y, .int .i64 x.w, .int .i64 x.h] 35)) W → Below w.heap.size w W ∧ Bk W w.heap.size #[.int .i64 0, .int .i64 0, .int .i64 0, .int .i64 0] 35 ∧ Bk W bx #[.int .i64 p.x, .int .i64 p.y, .int .i64 p.w, .int .i64 p.h] 35 ∧ Bk W wr.heap.size #[.int .i64 x.x, .int .i64 x.y, .int .i64 x.w, .int .i64 x.h] 35 ∧ bx < wr.heap.size) := fun W h => by
          have hb : Below wr.heap.size wr (wr.alloc (.cells #[.int .i64 x.x, .int .i64 x.y, .int .i64 x.w, .int .i64 x.h] 35)) := (Below.refl _ wr).alloc (Nat.le_refl _) _
          have hc := hb.trans (h.mono hb.size)
          exact ⟨HR.out.1.trans (hc.mono HR.out.1.size), HR.out.2.1.below hc, HR.out.2.2.below hc, (Bk.new _ _ _).below h, HR.out.2.2.lt⟩
        clear HR
        cases he : emD x
        · rw [he] at HE HN
          cases nn
          · have hpz := HIV.out.1 rfl
            subst hpz
            have HQ : Hid (bndF (a.take (k + 1)) = x ∧ anyN (a.take (k + 1)) = true) := ⟨by rw [HN.out.1, jn_first HMR.out he], by rw [HN.out.2]; rfl⟩
            clear HN HIV he
            go_wp2_with fail
            refine (HE.out _).mono ?_
            rintro e w4 ⟨rfl, hb4⟩
            have HB4 : Hid (Below w.heap.size w w4 ∧ Bk w4 w.heap.size #[.int .i64 0, .int .i64 0, .int .i64 0, .int .i64 0] 35 ∧ Bk w4 bx #[.int .i64 zr.x, .int .i64 zr.y, .int .i64 zr.w, .int .i64 zr.h] 35 ∧ Bk w4 wr.heap.size #[.int .i64 x.x, .int .i64 x.y, .int .i64 x.w, .int .i64 x.h] 35 ∧ bx < wr.heap.size) := HB2.out _ hb4
            clear hb4 x0 x1 x2 x3 HB2
            obtain ⟨x0, x1, x2, x3⟩ := HB4.out.2.2.2.1.at4
            obtain ⟨z0, z1, z2, z3⟩ := HB4.out.2.2.1.at4
            have f0 := HB4.out.2.2.1.frozen 0
            have f1 := HB4.out.2.2.1.frozen 1
            have f2 := HB4.out.2.2.1.frozen 2
            have f3 := HB4.out.2.2.1.frozen 3
            have lx := HB4.out.2.2.2.1.lt
            have HRel : Hid (∃ k' : Nat, k' ≤ a.length ∧ Value.int .i64 ((k : Int) + 1) = .int .i64 k' ∧ Value.bool true = .bool (anyN (a.take k')) ∧ Hid (Below w.heap.size w ((((w4.setCell ⟨bx, 0, none⟩ (.int .i64 x.x)).setCell ⟨bx, 1, none⟩ (.int .i64 x.y)).setCell ⟨bx, 2, none⟩ (.int .i64 x.w)).setCell ⟨bx, 3, none⟩ (.int .i64 x.h)) ∧ Bk ((((w4.setCell ⟨bx, 0, none⟩ (.int .i64 x.x)).setCell ⟨bx, 1, none⟩ (.int .i64 x.y)).setCell ⟨bx, 2, none⟩ (.int .i64 x.w)).setCell ⟨bx, 3, none⟩ (.int .i64 x.h)) w.heap.size #[.int .i64 0, .int .i64 0, .int .i64 0, .int .i64 0] 35 ∧ Bk ((((w4.setCell ⟨bx, 0, none⟩ (.int .i64 x.x)).setCell ⟨bx, 1, none⟩ (.int .i64 x.y)).setCell ⟨bx, 2, none⟩ (.int .i64 x.w)).setCell ⟨bx, 3, none⟩ (.int .i64 x.h)) bx #[.int .i64 (bndF (a.take k')).x, .int .i64 (bndF (a.take k')).y, .int .i64 (bndF (a.take k')).w, .int .i64 (bndF (a.take k')).h] 35)) :=
              ⟨k + 1, by omega, by go_num, by rw [HQ.out.2], below4 HB4.out.1 (by omega) _ _ _ _, HB4.out.2.1.off4 (by omega) _ _ _ _, by rw [HQ.out.1]; exact HB4.out.2.2.1.put4 _ _ _ _⟩
            clear HB4 HQ
            go_wp2
            go_roundw
            case rel => exact HRel.out
            case measure => simp [intOf]; omega
          · have hpk := HIV.out.2 rfl
            have hbp := (keepE_iff p).1 hpk
            obtain ⟨j1, j2⟩ := jn_two HMR.out he hpk
            have HQ : Hid (bndF (a.take (k + 1)) = uniR p x ∧ anyN (a.take (k + 1)) = true) := ⟨by rw [HN.out.1, j1], by rw [HN.out.2]; rfl⟩
            clear HN HIV he j1 j2 hpk
            have m1 : -16384 ≤ min p.x x.x ∧ min p.x x.x ≤ 16384 := by omega
            have m2 : -16384 ≤ min p.y x.y ∧ min p.y x.y ≤ 16384 := by omega
            have m3 : -16384 ≤ max (p.x + p.w) (x.x + x.w) ∧ max (p.x + p.w) (x.x + x.w) ≤ 16384 := by omega
            have m4 : -16384 ≤ max (p.y + p.h) (x.y + x.h) ∧ max (p.y + p.h) (x.y + x.h) ≤ 16384 := by omega
            go_wp2_with fail
            refine (HE.out _).mono ?_
            rintro e w4 ⟨rfl, hb4⟩
            have HB4 : Hid (Below w.heap.size w w4 ∧ Bk w4 w.heap.size #[.int .i64 0, .int .i64 0, .int .i64 0, .int .i64 0] 35 ∧ Bk w4 bx #[.int .i64 p.x, .int .i64 p.y, .int .i64 p.w, .int .i64 p.h] 35 ∧ Bk w4 wr.heap.size #[.int .i64 x.x, .int .i64 x.y, .int .i64 x.w, .int .i64 x.h] 35 ∧ bx < wr.heap.size) := HB2.out _ hb4
            clear hb4 x0 x1 x2 x3 HB2
            obtain ⟨x0, x1, x2, x3⟩ := HB4.out.2.2.2.1.at4
            obtain ⟨z0, z1, z2, z3⟩ := HB4.out.2.2.1.at4
            have f0 := HB4.out.2.2.1.frozen 0
            have f1 := HB4.out.2.2.1.frozen 1
            have f2 := HB4.out.2.2.1.frozen 2
            have f3 := HB4.out.2.2.1.frozen 3
            have lx := HB4.out.2.2.2.1.lt
            have HRel : Hid (∃ k' : Nat, k' ≤ a.length ∧ Value.int .i64 ((k : Int) + 1) = .int .i64 k' ∧ Value.bool true = .bool (anyN (a.take k')) ∧ Hid (Below w.heap.size w ((((w4.setCell ⟨bx, 0, none⟩ (.int .i64 (uniR p x).x)).setCell ⟨bx, 1, none⟩ (.int .i64 (uniR p x).y)).setCell ⟨bx, 2, none⟩ (.int .i64 (uniR p x).w)).setCell ⟨bx, 3, none⟩ (.int .i64 (uniR p x).h)) ∧ Bk ((((w4.setCell ⟨bx, 0, none⟩ (.int .i64 (uniR p x).x)).setCell ⟨bx, 1, none⟩ (.int .i64 (uniR p x).y)).setCell ⟨bx, 2, none⟩ (.int .i64 (uniR p x).w)).setCell ⟨bx, 3, none⟩ (.int .i64 (uniR p x).h)) w.heap.size #[.int .i64 0, .int .i64 0, .int .i64 0, .int .i64 0] 35 ∧ Bk ((((w4.setCell ⟨bx, 0, none⟩ (.int .i64 (uniR p x).x)).setCell ⟨bx, 1, none⟩ (.int .i64 (uniR p x).y)).setCell ⟨bx, 2, none⟩ (.int .i64 (uniR p x).w)).setCell ⟨bx, 3, none⟩ (.int .i64 (uniR p x).h)) bx #[.int .i64 (bndF (a.take k')).x, .int .i64 (bndF (a.take k')).y, .int .i64 (bndF (a.take k')).w, .int .i64 (bndF (a.take k')).h] 35)) :=
              ⟨k + 1, by omega, by go_num, by rw [HQ.out.2], below4 HB4.out.1 (by omega) _ _ _ _, HB4.out.2.1.off4 (by omega) _ _ _ _, by rw [HQ.out.1]; exact HB4.out.2.2.1.put4 _ _ _ _⟩
            clear HB4 HQ
            go_wp2
            go_roundw
            case rel => exact HRel.out
            case measure => simp [intOf]; omega
        · rw [he] at HE HN
          have HQ : Hid (bndF (a.take (k + 1)) = p ∧ anyN (a.take (k + 1)) = nn) := by
            refine ⟨?_, by rw [HN.out.2]; simp⟩
            rw [HN.out.1]
            refine jn_none HMR.out he ?_
            cases nn
            · exact .inl (HIV.out.1 rfl)
            · exact .inr (HIV.out.2 rfl)
          clear HN HIV he
          go_wp2_with fail
          refine (HE.out _).mono ?_
          rintro e w4 ⟨rfl, hb4⟩
          have HB4 := HB2.out _ hb4
          have HRel : Hid (∃ k' : Nat, k' ≤ a.length ∧ Value.int .i64 ((k : Int) + 1) = .int .i64 k' ∧ Value.bool nn = .bool (anyN (a.take k')) ∧ Hid (Below w.heap.size w w4 ∧ Bk w4 w.heap.size #[.int .i64 0, .int .i64 0, .int .i64 0, .int .i64 0] 35 ∧ Bk w4 bx #[.int .i64 (bndF (a.take k')).x, .int .i64 (bndF (a.take k')).y, .int .i64 (bndF (a.take k')).w, .int .i64 (bndF (a.take k')).h] 35)) :=
            ⟨k + 1, by omega, by go_num, by rw [HQ.out.2], HB4.1, HB4.2.1, by rw [HQ.out.1]; exact HB4.2.2.1⟩
          clear HB4 hb4 HQ HB2
          go_wp2
          go_roundw
          case rel => exact HRel.out
          case measure => simp [intOf]; omega
      · obtain rfl : k = a.length := by omega
        obtain ⟨L, B0, B1⟩ := HR.out
        rw [List.take_length, ← HT.out] at B1
        obtain ⟨y0, y1, y2, y3⟩ := B1.at4
        obtain ⟨z0, z1, z2, z3⟩ := B0.at4
        have f0 := B0.frozen 0
        have f1 := B0.frozen 1
        have f2 := B0.frozen 2
        have f3 := B0.frozen 3
        have HF : Hid (Below w.heap.size w ((((wr.setCell ⟨w.heap.size, 0, none⟩ (.int .i64 T.x)).setCell ⟨w.heap.size, 1, none⟩ (.int .i64 T.y)).setCell ⟨w.heap.size, 2, none⟩ (.int .i64 T.w)).setCell ⟨w.heap.size, 3, none⟩ (.int .i64 T.h)) ∧ Bk ((((wr.setCell ⟨w.heap.size, 0, none⟩ (.int .i64 T.x)).setCell ⟨w.heap.size, 1, none⟩ (.int .i64 T.y)).setCell ⟨w.heap.size, 2, none⟩ (.int .i64 T.w)).setCell ⟨w.heap.size, 3, none⟩ (.int .i64 T.h)) w.heap.size #[.int .i64 T.x, .int .i64 T.y, .int .i64 T.w, .int .i64 T.h] 35) := ⟨below4 L (Nat.le_refl _) _ _ _ _, B0.put4 _ _ _ _⟩
        clear L B0 B1 HR
        obtain ⟨c0, c1, c2, c3⟩ := HF.out.2.at4
        go_wp2
        exact bodyPost_ret (v := .tuple #[.agg #[.int .i64 T.x, .int .i64 T.y, .int .i64 T.w, .int .i64 T.h], .int .i64 0]) (by simp [results, Try.results35, go_sem, c0, c1, c2, c3]) rfl ⟨rfl, HF.out.1⟩
  · rw [if_neg h0]
    generalize lisE a = ea at *
    have h1 : (ea != 0) = true := by simp [h0]
    clear ha h0
    go_enter Try.func35, Try.ntmps35
    go_wp2_with fail
    refine (H1.out _ HB0.out.1).mono ?_
    rintro e w1 ⟨rfl, hb1⟩
    have HB1 : Hid (Below w.heap.size w w1 ∧ Bk w1 w.heap.size #[.int .i64 0, .int .i64 0, .int .i64 0, .int .i64 0] 35) := ⟨HB0.out.1.trans (hb1.mono HB0.out.1.size), HB0.out.2.below hb1⟩
    clear hb1
    obtain ⟨z0, z1, z2, z3⟩ := HB1.out.2.at4
    have f0 := HB1.out.2.frozen 0
    have f1 := HB1.out.2.frozen 1
    have f2 := HB1.out.2.frozen 2
    have f3 := HB1.out.2.frozen 3
    have HF : Hid (Below w.heap.size w ((((w1.setCell ⟨w.heap.size, 0, none⟩ (.int .i64 0)).setCell ⟨w.heap.size, 1, none⟩ (.int .i64 0)).setCell ⟨w.heap.size, 2, none⟩ (.int .i64 0)).setCell ⟨w.heap.size, 3, none⟩ (.int .i64 0)) ∧ Bk ((((w1.setCell ⟨w.heap.size, 0, none⟩ (.int .i64 0)).setCell ⟨w.heap.size, 1, none⟩ (.int .i64 0)).setCell ⟨w.heap.size, 2, none⟩ (.int .i64 0)).setCell ⟨w.heap.size, 3, none⟩ (.int .i64 0)) w.heap.size #[.int .i64 0, .int .i64 0, .int .i64 0, .int .i64 0] 35) := ⟨below4 HB1.out.1 (Nat.le_refl _) _ _ _ _, HB1.out.2.put4 _ _ _ _⟩
    obtain ⟨c0, c1, c2, c3⟩ := HF.out.2.at4
    go_wp2
    exact bodyPost_ret (v := .tuple #[.agg #[.int .i64 0, .int .i64 0, .int .i64 0, .int .i64 0], .int .i64 ea]) (by simp [results, Try.results35, go_sem, c0, c1, c2, c3]) rfl ⟨rfl, HF.out.1⟩

end Go.Proofs.Ytagkbpceiedikaa
