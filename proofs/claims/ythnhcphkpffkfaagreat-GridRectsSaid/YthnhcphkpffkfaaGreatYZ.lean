/-
  Package grid: Rects.
-/
import Derived.Test.YthnhcphkpffkfaaGreatYY2
import Derived.Test.YthnhcphkpffkfaaGreatW1
namespace Go.Proofs.YthnhcphkpffkfaaGreat
open Go.RowKit

theorem cell_bk4Y {w : World} {b : Nat} {x y z u : Value} {t : TypeId} (h : w.heap[b]? = some (.cells #[x, y, z, u] t)) : ∀ (j : Nat) (v : Value), [x, y, z, u][j]? = some v → w.cell? ((⟨b, 0, none⟩ : Addr).add j) = some v := by
  intro j v hj
  rw [addr_plus, Nat.zero_add, Bk.cell h]
  simpa using hj
theorem one4Y (a b c d : Int) : ∀ u ∈ [Value.int .i64 a, .int .i64 b, .int .i64 c, .int .i64 d], u.oneCell' = true := by
  intro u hu
  simp at hu
  rcases hu with rfl | rfl | rfl | rfl <;> rfl
theorem info_rectY : (Tryz.prog.info? 29).map (fun i => (i.zero, i.size, i.bytes)) = some (some (.agg #[.int .i64 0, .int .i64 0, .int .i64 0, .int .i64 0]), 4, 32) := by kernel_rfl
theorem IS.getD {w : World} {v : Value} {xs : List Int} (h : IS w v xs) {i : Nat} (hi : i < xs.length) : ∃ g o cap, v = .slice (some ⟨g, o, none⟩) xs.length cap ∧ g < w.heap.size ∧ w.cell? ⟨g, o + i, none⟩ = some (.int .i64 (xs.getD i 0)) := by
  obtain ⟨oa, cap, e, _, hg⟩ := h
  obtain ⟨g, o, e1, g1, g2⟩ := hg (by omega)
  subst e1
  exact ⟨g, o, cap, e, g1, by rw [g2 i hi, List.getD_eq_getElem?_getD, List.getElem?_eq_getElem hi]; rfl⟩

theorem rects1_enters : ∀ args w, (callFunc 31 args).run Tryz.prog w = .ok (.enter 31 args) w := enters_of Tryz.func31 (by kernel_rfl) rfl
set_option maxRecDepth 10000 in
set_option maxHeartbeats 8000000 in
theorem rects1_any (c : Cl) (t q : Nat) (gap en : Int) (xs ys : List Int) (r : Rc) (lb rb bb tb wb hb lo : Nat) (lv rv tv wv hv : Value) (L : List Rc) (w : World)
    (h1 : Bk w lb #[lv] 22) (h2 : Bk w rb #[rv] 37) (h3 : Bk w bb #[.int .i64 r.x, .int .i64 r.y, .int .i64 r.w, .int .i64 r.h] 29) (h4 : Bk w tb #[tv] 22) (h5 : Bk w wb #[wv] 22) (h6 : Bk w hb #[hv] 22)
    (i1 : IS w lv (bgs gap 0 xs)) (i2 : IS w tv (bgs gap 0 ys)) (i3 : IS w wv xs) (i4 : IS w hv ys) (ho : OwK 29 4 fR lo w rv L) (hlo : lo ≤ w.heap.size) (hL : L.length ≤ 100000)
    (hq : c.x + c.k = q + 1) (hx : c.x + c.k ≤ xs.length) (hk : 1 ≤ c.k) (hy : c.y < ys.length) (hen : en = (q : Int) + 1) (hxl : xs.length ≤ 100000)
    (hr : -1000000 ≤ r.x ∧ r.x ≤ 1000000 ∧ -1000000 ≤ r.y ∧ r.y ≤ 1000000)
    (b1 : ∀ y ∈ bgs gap 0 xs, 0 ≤ y ∧ y ≤ 100000000000) (b2 : ∀ y ∈ bgs gap 0 ys, 0 ≤ y ∧ y ≤ 100000000000) (b3 : ∀ y ∈ xs, 0 ≤ y ∧ y ≤ 100000000000) :
    Calls Tryz.prog 31 #[.int .i64 (c.y : Nat), .agg #[.int .i64 (t : Nat), .int .i64 (c.x : Nat), .int .i64 en], .pointer (some ⟨lb, 0, none⟩), .pointer (some ⟨rb, 0, none⟩), .pointer (some ⟨bb, 0, none⟩), .pointer (some ⟨tb, 0, none⟩), .pointer (some ⟨wb, 0, none⟩), .pointer (some ⟨hb, 0, none⟩)] w fun e w' => e = .returned (.tuple #[]) ∧ ∃ x rv', w.grownBy x rv.ownBlock ∧ OwK 29 4 fR lo x rv' (L ++ [rcG gap xs ys r c]) ∧ w' = x.setCell ⟨rb, 0, none⟩ rv' := by
  have hgd : ∀ {l : List Int} {i : Nat} {M : Int}, i < l.length → (∀ y ∈ l, 0 ≤ y ∧ y ≤ M) → 0 ≤ l.getD i 0 ∧ l.getD i 0 ≤ M := fun {l i M} hi h => by
    rw [List.getD_eq_getElem?_getD, List.getElem?_eq_getElem hi]
    exact h _ (List.getElem_mem hi)
  have hll : (bgs gap 0 xs).length = xs.length := bgs_len gap xs 0
  have hlt : (bgs gap 0 ys).length = ys.length := bgs_len gap ys 0
  have n1 := hgd (i := c.x) (by rw [hll]; omega) b1
  have n2 := hgd (i := q) (by rw [hll]; omega) b1
  have n3 := hgd (i := c.y) (by rw [hlt]; omega) b2
  have n4 := hgd (i := q) (by omega) b3
  obtain ⟨lg, lo1, lc, el, ll, cl1⟩ := i1.getD (i := c.x) (by rw [hll]; omega)
  obtain ⟨lg', lo', lc', el', _, cl2⟩ := i1.getD (i := q) (by rw [hll]; omega)
  rw [el] at el'
  injection el' with e1 _ e3
  injection e1 with e1
  injection e1 with e1 e2 _
  subst e1 e2 e3
  obtain ⟨tg, th, tc, et, lt, ct⟩ := i2.getD (i := c.y) (by rw [hlt]; omega)
  obtain ⟨wg, wo, wc, ew, lw, cw⟩ := i3.getD (i := q) (by omega)
  obtain ⟨hg, hh, hc, eh, lh, ch⟩ := i4.getD (i := c.y) hy
  rw [hll] at el
  rw [hlt] at et
  subst el et ew eh
  have HRc : Hid (rcG gap xs ys r c = ⟨r.x + (bgs gap 0 xs).getD c.x 0, r.y + (bgs gap 0 ys).getD c.y 0, (bgs gap 0 xs).getD q 0 + xs.getD q 0 - (bgs gap 0 xs).getD c.x 0, ys.getD c.y 0⟩) := by
    unfold Hid rcG beg ext
    rw [show c.x + c.k - 1 = q by omega]
  have ix : (c.x : Int) < (xs.length : Int) := by omega
  have iq : (q : Int) < (xs.length : Int) := by omega
  have iy : (c.y : Int) < (ys.length : Int) := by omega
  rw [HRc.out]
  generalize (bgs gap 0 xs).getD c.x 0 = A at *
  generalize (bgs gap 0 ys).getD c.y 0 = B at *
  generalize (bgs gap 0 xs).getD q 0 = C at *
  generalize xs.getD q 0 = D at *
  generalize ys.getD c.y 0 = E at *
  have X : Hid (w.cell? ⟨lg, lo1 + c.x, none⟩ = some (.int .i64 A) ∧ w.cell? ⟨lg, lo1 + q, none⟩ = some (.int .i64 C) ∧ w.cell? ⟨tg, th + c.y, none⟩ = some (.int .i64 B) ∧ w.cell? ⟨wg, wo + q, none⟩ = some (.int .i64 D) ∧ w.cell? ⟨hg, hh + c.y, none⟩ = some (.int .i64 E)) := ⟨cl1, cl2, ct, cw, ch⟩
  have Lt : Hid (lg < w.heap.size ∧ tg < w.heap.size ∧ wg < w.heap.size ∧ hg < w.heap.size) := ⟨ll, lt, lw, lh⟩
  have K : Hid (Bk w lb #[.slice (some ⟨lg, lo1, none⟩) xs.length lc] 22 ∧ Bk w rb #[rv] 37 ∧ Bk w bb #[.int .i64 r.x, .int .i64 r.y, .int .i64 r.w, .int .i64 r.h] 29 ∧ Bk w tb #[.slice (some ⟨tg, th, none⟩) ys.length tc] 22 ∧ Bk w wb #[.slice (some ⟨wg, wo, none⟩) xs.length wc] 22 ∧ Bk w hb #[.slice (some ⟨hg, hh, none⟩) ys.length hc] 22) := ⟨h1, h2, h3, h4, h5, h6⟩
  have HN : Hid (OwK 29 4 fR lo w rv L) := ho
  obtain ⟨ro, rc, e1, _, _⟩ := row_val ho
  subst e1
  obtain ⟨j0, ki, kz0, kz1, kz2⟩ := info_parts info_rectY
  have HJ : Hid (Tryz.prog.info? 29 = some j0 ∧ j0.zero = some (.agg #[.int .i64 0, .int .i64 0, .int .i64 0, .int .i64 0]) ∧ j0.size = 4 ∧ j0.bytes = 32) := ⟨ki, kz0, kz1, kz2⟩
  have hw0 : IntKind.i64.wrap (en - 1) = (q : Int) := by rw [IntKind.wrap_i64]; omega
  have hw1 : IntKind.i64.wrap (r.x + A) = r.x + A := by rw [IntKind.wrap_i64]; omega
  have hw2 : IntKind.i64.wrap (r.y + B) = r.y + B := by rw [IntKind.wrap_i64]; omega
  have hw3 : IntKind.i64.wrap (C + D) = C + D := by rw [IntKind.wrap_i64]; omega
  have hw4 : IntKind.i64.wrap (C + D - A) = C + D - A := by rw [IntKind.wrap_i64]; omega
  clear h1 h2 h3 h4 h5 h6 i1 i2 i3 i4 ho hgd hll hlt b1 b2 b3 cl1 cl2 ct cw ch ll lt lw lh HRc ki kz0 kz1 kz2 hen hq
  have HB : Hid (Below w.heap.size w (w.alloc (.cells #[.int .i64 (t : Nat), .int .i64 (c.x : Nat), .int .i64 en] 68)) ∧ Bk (w.alloc (.cells #[.int .i64 (t : Nat), .int .i64 (c.x : Nat), .int .i64 en] 68)) w.heap.size #[.int .i64 (t : Nat), .int .i64 (c.x : Nat), .int .i64 en] 68) := ⟨(Below.refl _ _).alloc (Nat.le_refl _) _, Bk.new _ _ _⟩
  obtain ⟨rx, ry, rw', rh⟩ := r
  simp only at *
  generalize hcx : c.x = cx at *
  generalize hcy : c.y = cy at *
  clear hcx hcy
  go_enter Tryz.func31, Tryz.ntmps31
  go_upto_region 1 with fail
  generalize w.alloc (.cells #[.int .i64 (t : Nat), .int .i64 (cx : Nat), .int .i64 en] 68) = W1 at *
  obtain ⟨y0, y1, y2⟩ : W1.cell? ⟨lb, 0, none⟩ = some (.slice (some ⟨lg, lo1, none⟩) xs.length lc) ∧ W1.cell? ⟨w.heap.size, 1, none⟩ = some (.int .i64 (cx : Nat)) ∧ W1.cell? ⟨w.heap.size, 2, none⟩ = some (.int .i64 en) := ⟨by rw [(K.out.1.below HB.out.1).cell]; rfl, by rw [HB.out.2.cell]; rfl, by rw [HB.out.2.cell]; rfl⟩
  have y3 : W1.cell? ⟨lg, lo1 + cx, none⟩ = some (.int .i64 A) := (HB.out.1.cell (p := ⟨lg, lo1 + cx, none⟩) Lt.out.1).trans X.out.1
  have HB1 : Hid (∀ n, Below w.heap.size w (W1.drewN n) ∧ Bk (W1.drewN n) w.heap.size #[.int .i64 (t : Nat), .int .i64 (cx : Nat), .int .i64 en] 68) := fun n => ⟨below_drewK HB.out.1, HB.out.2.drewN n⟩
  go_quiet (fail)
  go_upto_region 2 with fail
  have HB2 : Hid (Below w.heap.size w (W1.drewN nq) ∧ Bk (W1.drewN nq) w.heap.size #[.int .i64 (t : Nat), .int .i64 (cx : Nat), .int .i64 en] 68) := HB1.out nq
  clear y0 y1 y2 y3 HB HB1
  generalize W1.drewN nq = W2 at *
  refine R4.wp_region_lit 32 1 2 (fun _ b => .slice (some ⟨b, 0, none⟩) 1 1) (fun _ => .cells #[.int .i64 (rx + A), .int .i64 (ry + B), .int .i64 (C + D - A), .int .i64 E] 29) [52] (by kernel_rfl) (by kernel_rfl) rfl ?_ rfl ?_
  · intro k hk
    have hc : k = 0 := by omega
    subst hc; rfl
  apply Exists.intro
  refine ⟨fun bs ne => ?_, ?_, ?_⟩
  · have hs := HB2.out.1
    have k1 := K.out.1.below hs
    have k2 := K.out.2.1.below hs
    have k3 := K.out.2.2.1.below hs
    have k4 := K.out.2.2.2.1.below hs
    have k5 := K.out.2.2.2.2.1.below hs
    have k6 := K.out.2.2.2.2.2.below hs
    have d1 := fun u : Gb W2 bs => (show u.wd.cell? ⟨lb, 0, none⟩ = some (.slice (some ⟨lg, lo1, none⟩) xs.length lc) by rw [(k1.below u.below).cell]; rfl)
    have d2 := fun u : Gb W2 bs => (show u.wd.cell? ⟨rb, 0, none⟩ = some (.slice ro L.length rc) by rw [(k2.below u.below).cell]; rfl)
    have d3 := fun u : Gb W2 bs => (show u.wd.cell? ⟨bb, 0, none⟩ = some (.int .i64 rx) by rw [(k3.below u.below).cell]; rfl)
    have d4 := fun u : Gb W2 bs => (show u.wd.cell? ⟨bb, 1, none⟩ = some (.int .i64 ry) by rw [(k3.below u.below).cell]; rfl)
    have d5 := fun u : Gb W2 bs => (show u.wd.cell? ⟨tb, 0, none⟩ = some (.slice (some ⟨tg, th, none⟩) ys.length tc) by rw [(k4.below u.below).cell]; rfl)
    have d6 := fun u : Gb W2 bs => (show u.wd.cell? ⟨wb, 0, none⟩ = some (.slice (some ⟨wg, wo, none⟩) xs.length wc) by rw [(k5.below u.below).cell]; rfl)
    have d7 := fun u : Gb W2 bs => (show u.wd.cell? ⟨hb, 0, none⟩ = some (.slice (some ⟨hg, hh, none⟩) ys.length hc) by rw [(k6.below u.below).cell]; rfl)
    have bl : ∀ u : Gb W2 bs, Below w.heap.size w u.wd := fun u => hs.trans (u.below.mono hs.size)
    have d8 := fun u : Gb W2 bs => ((bl u).cell (p := ⟨lg, lo1 + q, none⟩) Lt.out.1).trans X.out.2.1
    have d9 := fun u : Gb W2 bs => ((bl u).cell (p := ⟨tg, th + cy, none⟩) Lt.out.2.1).trans X.out.2.2.1
    have da := fun u : Gb W2 bs => ((bl u).cell (p := ⟨wg, wo + q, none⟩) Lt.out.2.2.1).trans X.out.2.2.2.1
    have db := fun u : Gb W2 bs => ((bl u).cell (p := ⟨hg, hh + cy, none⟩) Lt.out.2.2.2).trans X.out.2.2.2.2
    clear hs k1 k2 k3 k4 k5 k6 bl
    simp only [List.take_succ_cons, List.take_zero]
    repeat (go_big_quiet_step (fail))
    exact wpQuiet_nil rfl
  · intro i h1 h2
    have hc : i = 32 := by omega
    subst hc
    exact ⟨_, rfl, rfl, fun _ => by kernel_rfl⟩
  intro bl wx hbl hlo' _
  obtain ⟨q3, q4⟩ := hlo' 32 (by omega) (by omega)
  simp only [R4.layL]
  generalize bl 32 = g0 at *
  have hb2 := HB2.out.1.trans (hbl.mono HB2.out.1.size)
  clear hlo' hbl HB2
  have o5 : wx.ownsRow lo 29 4 (.slice ro L.length rc) L.length (flatK fR L) := HN.out.below hb2
  obtain ⟨ki, kz0, kz1, kz2⟩ := HJ.out
  refine wpAny_one 33 (by kernel_rfl) rfl ?_
  intro KK hK
  refine step_append_lies wx (by rfl) _ _ 37 (by rfl) lo 29 j0 (.agg #[.int .i64 0, .int .i64 0, .int .i64 0, .int .i64 0]) 4 32 Tryz.underlying37 ki kz0 kz1 kz2 rfl (by decide) (.slice ro L.length rc) L.length (flatK fR L) (by rfl) o5 ⟨g0, 0, none⟩ 1 1 [.int .i64 (rx + A), .int .i64 (ry + B), .int .i64 (C + D - A), .int .i64 E] (by rfl) rfl (cell_bk4Y q4) (one4Y _ _ _ _) (by decide) (by unfold maxLen; omega) (by omega) (Nat.le_trans hlo hb2.size) wx.heap.size rfl ?_
  intro h0 cap0 X1 hown hgrow _ _
  have kb := K.out.2.1.below hb2
  have hne := row_typ o5 kb (by decide)
  have kb1 := kb.grown hgrow hne
  have HRel : Hid (w.grownBy X1 (Value.slice ro L.length rc).ownBlock ∧ OwK 29 4 fR lo X1 (.slice (some ⟨h0, 0, none⟩) (L.length + 1) cap0) (L ++ [⟨rx + A, ry + B, C + D - A, E⟩])) := by
    exact ⟨grow_tr ⟨hb2.os, hb2.tape, hb2.output, hb2.size, fun b hb _ => hb2.block b hb⟩ hgrow (.inl rfl), OwK.snoc (a := (⟨rx + A, ry + B, C + D - A, E⟩ : Rc)) rfl hown⟩
  have c2 : X1.cell? ⟨rb, 0, none⟩ = some (.slice ro L.length rc) := by rw [kb1.cell]; rfl
  have f2 := kb1.frozen 0
  clear hown hgrow o5 q3 q4 hb2 ki kz0 kz1 kz2 kb kb1 hne
  refine hK _ _ ?_
  clear hK KK
  refine wpAny_one 34 (by kernel_rfl) rfl ?_
  intro KK hK
  go_simp
  refine hK _ _ ?_
  clear hK KK
  refine wpAny_done (by kernel_rfl) ?_ _
  go_wp2
  go_end0
  exact ⟨rfl, _, _, HRel.out.1, HRel.out.2, rfl⟩

end Go.Proofs.YthnhcphkpffkfaaGreat

namespace Go.Proofs.YthnhcphkpffkfaaGreat
open Go.RowKit

def mayQ (q : Rc) : Bool := mayB q.x q.y q.w q.h
set_option maxHeartbeats 2000000 in
theorem mayNot_any (q : Rc) (w : World) (hx : I64 q.x) (hy : I64 q.y) : Calls Tryz.prog 33 #[.agg #[.int .i64 q.x, .int .i64 q.y, .int .i64 q.w, .int .i64 q.h]] w fun e w' => e = .returned (.bool (!mayQ q)) ∧ Below w.heap.size w w' := by
  have HB : Hid (Below w.heap.size w (w.alloc (.cells #[.int .i64 q.x, .int .i64 q.y, .int .i64 q.w, .int .i64 q.h] 29))) := (Below.refl _ _).alloc (Nat.le_refl _) _
  have H1 : Hid (∀ W, Calls Tryz.prog 27 #[.agg #[.int .i64 q.x, .int .i64 q.y, .int .i64 q.w, .int .i64 q.h]] W fun e w' => e = .returned (.int .i64 (chk q.x q.y q.w q.h)) ∧ Below W.heap.size W w') := fun W => check_any _ _ _ _ W hx hy
  have hne : (chk q.x q.y q.w q.h != 0) = !mayQ q := chk_ne _ _ _ _
  generalize chk q.x q.y q.w q.h = c at *
  generalize (!mayQ q) = R at *
  clear hx hy
  go_enter Tryz.func33, Tryz.ntmps33
  go_wp2_with fail
  refine (H1.out _).mono ?_
  rintro e w1 ⟨rfl, hb⟩
  have HB2 : Hid (Below w.heap.size w w1) := HB.out.trans (hb.mono HB.out.size)
  clear hb HB
  go_wp2
  go_ret
  exact ⟨rfl, HB2.out⟩

theorem mayNot_enters : ∀ args w, (callFunc 33 args).run Tryz.prog w = .ok (.enter 33 args) w := enters_of Tryz.func33 (by kernel_rfl) rfl

set_option maxHeartbeats 2000000 in
theorem indexR_any (L : List Rc) (v : Value) (w : World) (hv : KS 4 fR w v L) (hi : ∀ q ∈ L, I64 q.x ∧ I64 q.y) (hl : L.length ≤ 100000) :
    Calls Tryz.prog 66 #[v, .func (.func 33) #[] #[]] w fun e w' => ∃ i : Int, e = .returned (.int .i64 i) ∧ Hid (decide (0 ≤ i) = !(L.all mayQ) ∧ Below w.heap.size w w') := by
  obtain ⟨oa, cap, rfl, hc, hg⟩ := hv
  have HG : Hid (0 < L.length → ∃ g o, oa = some ⟨g, o, none⟩ ∧ g < w.heap.size ∧ ∀ i (h : i < L.length) j, j < 4 → w.cell? ⟨g, o + i * 4 + j, none⟩ = some (.int .i64 ((fR L[i]).getD j 0))) := hg
  have HF : Hid (∀ q ∈ L, ∀ W, Calls Tryz.prog 33 #[.agg #[.int .i64 (q : Rc).x, .int .i64 q.y, .int .i64 q.w, .int .i64 q.h]] W fun e w' => e = .returned (.bool (!mayQ q)) ∧ Below W.heap.size W w') := fun q hq W => mayNot_any q W (hi q hq).1 (hi q hq).2
  have eg := mayNot_enters
  have HB0 : Hid (Below w.heap.size w w) := Below.refl _ _
  clear hg hi
  go_enter Tryz.func66, Tryz.ntmps66
  go_wp2_with fail
  go_loopw [5, 8] (fun _ i wr => ∃ k : Nat, k ≤ L.length ∧ i = .int .i64 k ∧ Hid ((L.take k).all mayQ = true ∧ Below w.heap.size w wr)) (fun _ i _ => L.length - (intOf i).toNat)
  case atStart => exact ⟨0, Nat.zero_le _, rfl, rfl, HB0.out⟩
  case round =>
    obtain ⟨k, hk, rfl, HK⟩ := hrel
    by_cases hlt : k < L.length
    · have ik : (k : Int) < L.length := by omega
      obtain ⟨g, o, rfl, hgl, hat⟩ := HG.out (by omega)
      have hb := HK.out.2
      have x0 : wr.cell? ⟨g, o + k * 4, none⟩ = some (.int .i64 L[k].x) := (hb.cell (p := ⟨g, o + k * 4, none⟩) hgl).trans (hat k hlt 0 (by omega))
      have x1 : wr.cell? ⟨g, o + k * 4 + 1, none⟩ = some (.int .i64 L[k].y) := (hb.cell (p := ⟨g, o + k * 4 + 1, none⟩) hgl).trans (hat k hlt 1 (by omega))
      have x2 : wr.cell? ⟨g, o + k * 4 + 2, none⟩ = some (.int .i64 L[k].w) := (hb.cell (p := ⟨g, o + k * 4 + 2, none⟩) hgl).trans (hat k hlt 2 (by omega))
      have x3 : wr.cell? ⟨g, o + k * 4 + 3, none⟩ = some (.int .i64 L[k].h) := (hb.cell (p := ⟨g, o + k * 4 + 3, none⟩) hgl).trans (hat k hlt 3 (by omega))
      have HT : Hid ((mayQ L[k] = true → (L.take (k + 1)).all mayQ = true) ∧ (mayQ L[k] = false → L.all mayQ = false)) := ⟨fun h => take_all hlt HK.out.1 h, fun h => all_not hlt h⟩
      have HFk := HF.out L[k] (List.getElem_mem hlt) wr
      have HB1 : Hid (Below w.heap.size w wr) := hb
      clear hat HK hb
      generalize L[k] = q at *
      cases c1 : mayQ q
      · have hR : Hid (L.all mayQ = false) := HT.out.2 c1
        rw [c1] at HFk
        clear HT c1
        go_wp2_with fail
        refine HFk.mono ?_
        rintro e w1 ⟨rfl, hb⟩
        have HB2 : Hid (Below w.heap.size w w1) := HB1.out.trans (hb.mono HB1.out.size)
        clear hb HB1
        go_wp2
        go_ret
        exact ⟨k, rfl, by rw [hR.out]; simp, HB2.out⟩
      · have HA : Hid ((L.take (k + 1)).all mayQ = true) := HT.out.1 c1
        rw [c1] at HFk
        clear HT c1
        go_wp2_with fail
        refine HFk.mono ?_
        rintro e w1 ⟨rfl, hb⟩
        have HB2 : Hid (Below w.heap.size w w1) := HB1.out.trans (hb.mono HB1.out.size)
        clear hb HB1
        go_wp2
        exact ⟨⟨k + 1, by omega, by go_num, HA.out, HB2.out⟩, by simp [intOf]; omega⟩
    · obtain rfl : k = L.length := by omega
      have HF2 : Hid (L.all mayQ = true ∧ Below w.heap.size w wr) := by have := HK.out; rw [List.take_length] at this; exact this
      clear HK
      go_wp2
      go_ret
      exact ⟨-1, rfl, by rw [HF2.out.1]; rfl, HF2.out.2⟩

set_option maxHeartbeats 2000000 in
theorem contR_any (L : List Rc) (v : Value) (w : World) (hv : KS 4 fR w v L) (hi : ∀ q ∈ L, I64 q.x ∧ I64 q.y) (hl : L.length ≤ 100000) :
    Calls Tryz.prog 32 #[v, .func (.func 33) #[] #[]] w fun e w' => e = .returned (.bool (!(L.all mayQ))) ∧ Below w.heap.size w w' := by
  have HX := indexR_any L v w hv hi hl
  obtain ⟨oa, cap, rfl, hc, hg⟩ := hv
  generalize (!(L.all mayQ)) = R at *
  clear hc hg hi
  go_enter Tryz.func32, Tryz.ntmps32
  go_wp2_with fail
  refine HX.mono ?_
  rintro e w1 ⟨i, rfl, HB⟩
  go_wp2
  go_ret
  exact ⟨by rw [← HB.out.1]; rfl, HB.out.2⟩

end Go.Proofs.YthnhcphkpffkfaaGreat

namespace Go.Proofs.YthnhcphkpffkfaaGreat
open Go.RowKit

def tup0 : Value → Value
  | .tuple a => a.getD 0 undef
  | _ => undef
def tup1 : Value → Value
  | .tuple a => a.getD 1 undef
  | _ => undef
theorem TS.belowY {w w' : World} {v : Value} {T : List Tk} (h : TS w v T) (hb : Below w.heap.size w w') : TS w' v T := by
  obtain ⟨oa, cap, e, hc, hg⟩ := h
  refine ⟨oa, cap, e, hc, fun hp => ?_⟩
  obtain ⟨g, o, e1, g1, g2⟩ := hg hp
  exact ⟨g, o, e1, Nat.lt_of_lt_of_le g1 hb.size, fun i hi => ⟨(hb.cell (p := ⟨g, o + i * 3, none⟩) g1).trans (g2 i hi).1, (hb.cell (p := ⟨g, o + i * 3 + 1, none⟩) g1).trans (g2 i hi).2.1, (hb.cell (p := ⟨g, o + i * 3 + 2, none⟩) g1).trans (g2 i hi).2.2⟩⟩
theorem OwI.far {lo : Nat} {w : World} {v : Value} {xs : List Int} {g : Nat} {cs : Array Value} (h : OwI lo w v xs) (hk : Bk w g cs 22) {o : Nat} {y : Value} : OwI lo (w.setCell ⟨g, o, none⟩ y) v xs := World.ownsRow.kept h (grow_set w g o y) (.inr (row_typ h hk (by decide)))
def JR1 (w5 : World) (ao : Option Addr) (ac bb : Nat) (gap : Int) (l1 xs : List Int) (r : Rc) (b : Nat → Bool) (u12 u16 u17 u55 u56 u57 u58 u59 u60 u61 u62 u63 u64 u65 : Value) (x : World) : Prop :=
  (b 0 = true → u56 = .slice ao l1.length ac) ∧
  (b 1 = true → ∃ g, u57 = .slice (some ⟨g, 0, none⟩) l1.length l1.length ∧ (b 6 = false → TS x u57 (l1.map trk))) ∧
  (b 2 = true → u58 = .int .i64 gap) ∧
  (b 3 = true → u59 = .pointer (some ⟨bb, 2, none⟩)) ∧
  (b 4 = true → u60 = .pointer (some ⟨bb, 2, none⟩)) ∧
  (b 5 = true → u61 = .int .i64 r.w) ∧
  (b 6 = true → ∃ v u, u62 = .tuple #[v, u, .int .i64 0] ∧ OwI w5.heap.size x v xs ∧ OwI w5.heap.size x u (bgs gap 0 xs)) ∧
  (b 7 = true → b 6 = true ∧ u55 = u62) ∧
  (b 8 = true → b 6 = true ∧ u63 = tup0 u62) ∧
  (b 9 = true → b 6 = true ∧ u64 = tup1 u62) ∧
  (b 10 = true → u65 = .int .i64 0) ∧
  (b 11 = true → ∃ g, u16 = .pointer (some ⟨g, 0, none⟩) ∧ w5.heap.size ≤ g ∧ (b 13 = false → Bk x g #[.slice none 0 0] 22) ∧ (b 13 = true → Bk x g #[u63] 22)) ∧
  (b 12 = true → ∃ g, u17 = .pointer (some ⟨g, 0, none⟩) ∧ w5.heap.size ≤ g ∧ (b 14 = false → Bk x g #[.slice none 0 0] 22) ∧ (b 14 = true → Bk x g #[u64] 22)) ∧
  (b 13 = true → b 11 = true ∧ b 8 = true) ∧
  (b 14 = true → b 12 = true ∧ b 9 = true) ∧
  (b 15 = true → u12 = .int .i64 0) ∧
  Below w5.heap.size w5 x ∧
  Bk x bb #[.int .i64 r.x, .int .i64 r.y, .int .i64 r.w, .int .i64 r.h] 29 ∧
  (b 11 = true → b 12 = true → u16 ≠ u17)
theorem JR1.grow {w5 : World} {ao : Option Addr} {ac bb : Nat} {gap : Int} {l1 xs : List Int} {r : Rc} {b : Nat → Bool} {u12 u16 u17 u55 u56 u57 u58 u59 u60 u61 u62 u63 u64 u65 : Value} {x x' : World} (h : JR1 w5 ao ac bb gap l1 xs r b u12 u16 u17 u55 u56 u57 u58 u59 u60 u61 u62 u63 u64 u65 x) (hb : Below x.heap.size x x') : JR1 w5 ao ac bb gap l1 xs r b u12 u16 u17 u55 u56 u57 u58 u59 u60 u61 u62 u63 u64 u65 x' := by
  obtain ⟨j0, j1, j2, j3, j4, j5, j6, j7, j8, j9, j10, j11, j12, j13, j14, j15, e0, e1, e2⟩ := h
  exact ⟨j0, (fun h => (j1 h).imp fun _ k => ⟨k.1, fun c => TS.belowY (k.2 c) hb⟩), j2, j3, j4, j5, (fun h => by obtain ⟨v, u, e, h1, h2⟩ := j6 h; exact ⟨v, u, e, h1.below hb, h2.below hb⟩), j7, j8, j9, j10, (fun h => (j11 h).imp fun _ k => ⟨k.1, k.2.1, (fun c => (k.2.2.1 c).below hb), fun c => (k.2.2.2 c).below hb⟩), (fun h => (j12 h).imp fun _ k => ⟨k.1, k.2.1, (fun c => (k.2.2.1 c).below hb), fun c => (k.2.2.2 c).below hb⟩), j13, j14, j15, e0.trans (hb.mono e0.size), e1.below hb, e2⟩
def JR2 (w5 : World) (bo : Option Addr) (bc bb : Nat) (gap : Int) (l2 ys : List Int) (r : Rc) (b : Nat → Bool) (u12 u18 u19 u69 u70 u71 u72 u73 u74 u75 u76 u77 u78 u79 : Value) (x : World) : Prop :=
  (b 0 = true → u70 = .slice bo l2.length bc) ∧
  (b 1 = true → ∃ g, u71 = .slice (some ⟨g, 0, none⟩) l2.length l2.length ∧ (b 6 = false → TS x u71 (l2.map trk))) ∧
  (b 2 = true → u72 = .int .i64 gap) ∧
  (b 3 = true → u73 = .pointer (some ⟨bb, 2, none⟩)) ∧
  (b 4 = true → u74 = .pointer (some ⟨bb, 3, none⟩)) ∧
  (b 5 = true → u75 = .int .i64 r.h) ∧
  (b 6 = true → ∃ v u, u76 = .tuple #[v, u, .int .i64 0] ∧ OwI w5.heap.size x v ys ∧ OwI w5.heap.size x u (bgs gap 0 ys)) ∧
  (b 7 = true → b 6 = true ∧ u69 = u76) ∧
  (b 8 = true → b 6 = true ∧ u77 = tup0 u76) ∧
  (b 9 = true → b 6 = true ∧ u78 = tup1 u76) ∧
  (b 10 = true → u79 = .int .i64 0) ∧
  (b 11 = true → ∃ g, u18 = .pointer (some ⟨g, 0, none⟩) ∧ w5.heap.size ≤ g ∧ (b 13 = false → Bk x g #[.slice none 0 0] 22) ∧ (b 13 = true → Bk x g #[u77] 22)) ∧
  (b 12 = true → ∃ g, u19 = .pointer (some ⟨g, 0, none⟩) ∧ w5.heap.size ≤ g ∧ (b 14 = false → Bk x g #[.slice none 0 0] 22) ∧ (b 14 = true → Bk x g #[u78] 22)) ∧
  (b 13 = true → b 11 = true ∧ b 8 = true) ∧
  (b 14 = true → b 12 = true ∧ b 9 = true) ∧
  (b 15 = true → u12 = .int .i64 0) ∧
  Below w5.heap.size w5 x ∧
  Bk x bb #[.int .i64 r.x, .int .i64 r.y, .int .i64 r.w, .int .i64 r.h] 29 ∧
  (b 11 = true → b 12 = true → u18 ≠ u19)
theorem JR2.grow {w5 : World} {bo : Option Addr} {bc bb : Nat} {gap : Int} {l2 ys : List Int} {r : Rc} {b : Nat → Bool} {u12 u18 u19 u69 u70 u71 u72 u73 u74 u75 u76 u77 u78 u79 : Value} {x x' : World} (h : JR2 w5 bo bc bb gap l2 ys r b u12 u18 u19 u69 u70 u71 u72 u73 u74 u75 u76 u77 u78 u79 x) (hb : Below x.heap.size x x') : JR2 w5 bo bc bb gap l2 ys r b u12 u18 u19 u69 u70 u71 u72 u73 u74 u75 u76 u77 u78 u79 x' := by
  obtain ⟨j0, j1, j2, j3, j4, j5, j6, j7, j8, j9, j10, j11, j12, j13, j14, j15, e0, e1, e2⟩ := h
  exact ⟨j0, (fun h => (j1 h).imp fun _ k => ⟨k.1, fun c => TS.belowY (k.2 c) hb⟩), j2, j3, j4, j5, (fun h => by obtain ⟨v, u, e, h1, h2⟩ := j6 h; exact ⟨v, u, e, h1.below hb, h2.below hb⟩), j7, j8, j9, j10, (fun h => (j11 h).imp fun _ k => ⟨k.1, k.2.1, (fun c => (k.2.2.1 c).below hb), fun c => (k.2.2.2 c).below hb⟩), (fun h => (j12 h).imp fun _ k => ⟨k.1, k.2.1, (fun c => (k.2.2.1 c).below hb), fun c => (k.2.2.2 c).below hb⟩), j13, j14, j15, e0.trans (hb.mono e0.size), e1.below hb, e2⟩

theorem rE1_zero {s : List Int} {z : List Sz} {c gap : Int} {r : Rc} (h : rE1 s z c gap r = 0) : gE1 s z c gap = 0 ∧ mayB r.x r.y r.w r.h = true := by
  unfold rE1 at h
  split at h
  · next e =>
    have hz := fsC_zero e
    have hm : mayB r.x r.y r.w r.h = true := by
      have := hz (if mayB r.x r.y r.w r.h = true then 0 else 5) (by simp)
      by_cases c : mayB r.x r.y r.w r.h = true
      · exact c
      · rw [if_neg c] at this; omega
    refine ⟨?_, hm⟩
    have e0 : gE0 s z c gap = 0 := fsC_all _ fun x hx => hz x (by simp at hx ⊢; rcases hx with h | h | h | h <;> simp [h])
    unfold gE1
    rw [if_pos e0]
    exact h
  · next e => exact absurd h e
theorem bgs_mem {gap : Int} {xs : List Int} (hg : 0 ≤ gap ∧ gap ≤ 16384) (hx : ∀ x ∈ xs, 0 ≤ x ∧ x ≤ 16777216) (hn : xs.length ≤ 1024) : ∀ y ∈ bgs gap 0 xs, 0 ≤ y ∧ y ≤ 100000000000 := fun y hy => by
  obtain ⟨i, hi, rfl⟩ := List.mem_iff_getElem.1 hy
  rw [bgs_len] at hi
  have := bgs_at gap xs 0 i hi
  rw [List.getD_eq_getElem?_getD, List.getElem?_eq_getElem (by rw [bgs_len]; exact hi)] at this
  have e : (bgs gap 0 xs)[i]'(by rw [bgs_len]; exact hi) = 0 + smL (xs.take i) + i * gap := this
  rw [e]
  have hs := smL_bd (l := xs.take i) (M := 16777216) fun y hy => hx y (List.mem_of_mem_take hy)
  have hl : ((xs.take i).length : Int) ≤ 1024 := by simp; omega
  have q1 : (i : Int) * gap ≤ 1024 * 16384 := Int.mul_le_mul (by omega) hg.2 hg.1 (by omega)
  have q2 : 0 ≤ (i : Int) * gap := Int.mul_nonneg (by omega) hg.1
  omega
theorem make_rectsY (n : Nat) (hn : n < 1000000) (W : World) : ∃ arr : Array Value, arr.size = n * 4 ∧ (Instr.makeSlice 37 (.int .i64 0) (.int .i64 (n : Nat))).run Tryz.prog W = .ok (.slice (some ⟨W.heap.size, 0, none⟩) 0 n) (W.alloc (.cells arr 29)) := by
  obtain ⟨i0, hi, hz0, hz1, hz2⟩ := info_parts info_rectY
  have h := run_make (P := Tryz.prog) W 37 29 i0 (.agg #[.int .i64 0, .int .i64 0, .int .i64 0, .int .i64 0]) Tryz.underlying37 hi hz0 .i64 .i64 0 (n : Int) (by omega) (by omega) (by rw [hz2]; omega) (by omega)
  simp only [Int.toNat_natCast, hz1] at h
  exact ⟨_, size_madeCells _ _, h⟩

set_option maxRecDepth 10000 in
set_option maxHeartbeats 8000000 in
theorem Rects_any (s : List Int) (z : List Sz) (col gap : Int) (r : Rc) (sv zv : Value) (w : World) (hs : IS w sv s) (hz : KS 2 fZ w zv z) (hrx : I64 r.x) (hry : I64 r.y) :
    Calls Tryz.prog 9 #[sv, zv, .int .i64 col, .int .i64 gap, .agg #[.int .i64 r.x, .int .i64 r.y, .int .i64 r.w, .int .i64 r.h]] w fun e w' => ∃ u, e = .returned (.tuple #[u, .int .i64 (rcE s z col gap r)]) ∧ Hid (OwK 29 4 fR w.heap.size w' u (rcL s z col gap r) ∧ Below w.heap.size w w') := by
  have HV : Hid (IS w sv s ∧ KS 2 fZ w zv z) := ⟨hs, hz⟩
  obtain ⟨so, sc, rfl, _, _⟩ := hs
  obtain ⟨zo, zc, rfl, _, _⟩ := hz
  have H1 : Hid (∀ W, IS W (.slice so s.length sc) s → Calls Tryz.prog 19 #[.slice so s.length sc] W fun e w' => e = .returned (.int .i64 (eaC s 64)) ∧ Below W.heap.size W w') := fun W h => (spans_any s _ W h).mono fun e w' ⟨a, b⟩ => ⟨a, b ▸ Below.refl _ _⟩
  have H1m : Hid (∀ W, KS 2 fZ W (.slice zo z.length zc) z → Calls Tryz.prog 20 #[.slice zo z.length zc] W fun e w' => e = .returned (.int .i64 (szC z)) ∧ Below W.heap.size W w') := fun W h => csizes_any z _ W h
  have H2 : Hid (∀ W, Calls Tryz.prog 21 #[.int .i64 col] W fun e w' => e = .returned (.int .i64 (nuC col 64)) ∧ Below W.heap.size W w') := fun W => (columns_any col W).mono fun e w' ⟨a, b⟩ => ⟨a, b ▸ Below.refl _ _⟩
  have H3 : Hid (∀ W, Calls Tryz.prog 22 #[.int .i64 gap] W fun e w' => e = .returned (.int .i64 (nuC gap 16384)) ∧ Below W.heap.size W w') := fun W => (side_any gap W).mono fun e w' ⟨a, b⟩ => ⟨a, b ▸ Below.refl _ _⟩
  have H4 : Hid (∀ W, Calls Tryz.prog 27 #[.agg #[.int .i64 r.x, .int .i64 r.y, .int .i64 r.w, .int .i64 r.h]] W fun e w' => e = .returned (.int .i64 (chk r.x r.y r.w r.h)) ∧ Below W.heap.size W w') := fun W => check_any _ _ _ _ W hrx hry
  have H5 : Hid (∀ W, Calls Tryz.prog 23 #[.int .i64 s.length, .int .i64 z.length] W fun e w' => e = .returned (.int .i64 (prC s.length z.length)) ∧ Below W.heap.size W w') := fun W => (pairs_any s.length z.length W).mono fun e w' ⟨a, b⟩ => ⟨a, b ▸ Below.refl _ _⟩
  have eE : fsC [eaC s 64, szC z, nuC col 64, nuC gap 16384, chk r.x r.y r.w r.h, prC s.length z.length] = rE1 s z col gap r := fsC_snoc [eaC s 64, szC z, nuC col 64, nuC gap 16384, chk r.x r.y r.w r.h] (prC s.length z.length)
  have HFi : Hid (∀ x W, IS W x [eaC s 64, szC z, nuC col 64, nuC gap 16384, chk r.x r.y r.w r.h, prC s.length z.length] → Calls Tryz.prog 18 #[x] W fun e w' => e = .returned (.int .i64 (rE1 s z col gap r)) ∧ w' = W) := fun x W h => by rw [← eE]; exact or_any _ x W h (by simp)
  clear eE
  have HE : Hid (rE1 s z col gap r ≠ 0 → rcE s z col gap r = rE1 s z col gap r ∧ rcL s z col gap r = []) := fun h => by
    have e1 : rcE s z col gap r = rE1 s z col gap r := by unfold rcE; exact if_neg h
    exact ⟨e1, by unfold rcL; rw [e1, if_neg h]⟩
  have HOK : Hid (rE1 s z col gap r = 0 → gE1 s z col gap = 0 ∧ mayB r.x r.y r.w r.h = true ∧ rcE s z col gap r = (if (rcsG (clN col) gap (cel (clN col) s) z r).all (fun q => mayB q.x q.y q.w q.h) = true then 0 else 9) ∧ rcL s z col gap r = if rcE s z col gap r = 0 then rcsG (clN col) gap (cel (clN col) s) z r else []) := fun h => ⟨(rE1_zero h).1, (rE1_zero h).2, by unfold rcE; rw [if_pos h], rfl⟩
  generalize hR : rE1 s z col gap r = R at *
  clear hR
  generalize hr1 : eaC s 64 = r1 at *
  generalize hr4 : szC z = r4 at *
  generalize hr2 : nuC col 64 = r2 at *
  generalize hr3 : nuC gap 16384 = r3 at *
  generalize hr5 : chk r.x r.y r.w r.h = r5 at *
  generalize hr6 : prC s.length z.length = r6 at *
  clear hr1 hr2 hr3 hr4 hr5 hr6
  generalize rcE s z col gap r = RE at *
  generalize rcL s z col gap r = RL at *
  go_enter Tryz.func9, Tryz.ntmps9
  go_upto_region 1 with fail
  have HB0 : Hid (Below w.heap.size w (w.alloc (.cells #[.int .i64 r.x, .int .i64 r.y, .int .i64 r.w, .int .i64 r.h] 29)) ∧ Bk (w.alloc (.cells #[.int .i64 r.x, .int .i64 r.y, .int .i64 r.w, .int .i64 r.h] 29)) w.heap.size #[.int .i64 r.x, .int .i64 r.y, .int .i64 r.w, .int .i64 r.h] 29) := ⟨(Below.refl _ _).alloc (Nat.le_refl _) _, Bk.new _ _ _⟩
  obtain ⟨W1, HW1⟩ : ∃ W1, Hid (w.alloc (.cells #[.int .i64 r.x, .int .i64 r.y, .int .i64 r.w, .int .i64 r.h] 29) = W1) := ⟨_, rfl⟩
  rw [HW1.out] at HB0 ⊢
  obtain ⟨bb, Hbb⟩ : ∃ bb, Hid (bb = w.heap.size) := ⟨_, rfl⟩
  rw [← Hbb.out]
  have HB1 : Hid (Below w.heap.size w W1 ∧ Bk W1 bb #[.int .i64 r.x, .int .i64 r.y, .int .i64 r.w, .int .i64 r.h] 29 ∧ w.heap.size ≤ bb) := by rw [Hbb.out]; exact ⟨HB0.out.1, HB0.out.2, Nat.le_refl _⟩
  clear HB0 HW1 Hbb
  refine R4.wp_region_lit 15 1 2 (fun _ b => .slice (some ⟨b, 0, none⟩) 6 6) (fun _ => .cells #[.int .i64 r1, .int .i64 r4, .int .i64 r2, .int .i64 r3, .int .i64 r5, .int .i64 r6] 34) [36] (by kernel_rfl) (by kernel_rfl) rfl ?_ rfl ?_
  · intro k hk
    have hc : k = 0 := by omega
    subst hc; rfl
  apply Exists.intro
  refine ⟨fun bs ne => ?_, ?_, ?_⟩
  · have q0 := fun t : Gb W1 bs => (show t.wd.cell? ⟨bb, 0, none⟩ = some (.int .i64 r.x) by rw [(HB1.out.2.1.below t.below).cell]; rfl)
    have q1 := fun t : Gb W1 bs => (show t.wd.cell? ⟨bb, 1, none⟩ = some (.int .i64 r.y) by rw [(HB1.out.2.1.below t.below).cell]; rfl)
    have q2 := fun t : Gb W1 bs => (show t.wd.cell? ⟨bb, 2, none⟩ = some (.int .i64 r.w) by rw [(HB1.out.2.1.below t.below).cell]; rfl)
    have q3 := fun t : Gb W1 bs => (show t.wd.cell? ⟨bb, 3, none⟩ = some (.int .i64 r.h) by rw [(HB1.out.2.1.below t.below).cell]; rfl)
    have HV1 : Hid (∀ t : Gb W1 bs, IS t.wd (.slice so s.length sc) s ∧ KS 2 fZ t.wd (.slice zo z.length zc) z) := fun t => ⟨(HV.out.1.below HB1.out.1).below t.below, (HV.out.2.below HB1.out.1).below t.below⟩
    simp only [List.take_succ_cons, List.take_zero]
    repeat (go_big_quiet_step (first
      | (go_at_call 19; exact gb_call (H1.out _ (HV1.out _).1))
      | (go_at_call 20; exact gb_call (H1m.out _ (HV1.out _).2))
      | (go_at_call 21; exact gb_call (H2.out _))
      | (go_at_call 22; exact gb_call (H3.out _))
      | (go_at_call 27; exact gb_call (H4.out _))
      | (go_at_call 23; exact gb_call (H5.out _))))
    exact wpQuiet_nil rfl
  · intro i h1 h2
    have hc : i = 15 := by omega
    subst hc
    exact ⟨_, rfl, rfl, fun _ => by kernel_rfl⟩
  intro bl wx hbl hlo _
  obtain ⟨p1, p2⟩ := hlo 15 (by omega) (by omega)
  simp only [R4.layL]
  generalize bl 15 = g0 at *
  have HIS : Hid (IS wx (.slice (some ⟨g0, 0, none⟩) 6 6) [r1, r4, r2, r3, r5, r6]) := by
    refine ⟨_, 6, rfl, Nat.le_refl _, fun _ => ⟨g0, 0, rfl, (Array.getElem?_eq_some_iff.1 p2).1, fun i hi => ?_⟩⟩
    have hb : Bk wx g0 (flatI [r1, r4, r2, r3, r5, r6]).toArray 34 := p2
    rw [Nat.zero_add, hb.cell, List.getElem?_toArray]
    exact flatI_at _ i hi
  have HBw : Hid (Below w.heap.size w wx ∧ Bk wx bb #[.int .i64 r.x, .int .i64 r.y, .int .i64 r.w, .int .i64 r.h] 29 ∧ w.heap.size ≤ bb) := ⟨HB1.out.1.trans (hbl.mono HB1.out.1.size), HB1.out.2.1.below hbl, HB1.out.2.2⟩
  clear hlo p1 p2 hbl HB1 H1 H1m H2 H3 H4 H5
  refine wpAny_one 16 (by kernel_rfl) rfl ?_
  intro K hK
  go_simp
  refine (HFi.out _ _ HIS.out).mono ?_
  rintro e w2 ⟨rfl, rfl⟩
  refine hK _ _ ?_
  clear hK K HFi HIS
  refine wpAny_one 17 (by kernel_rfl) rfl ?_
  intro K hK
  go_simp
  refine hK _ _ ?_
  clear hK K
  refine wpAny_done (by kernel_rfl) ?_ _
  by_cases h0 : R = 0
  · subst h0
    obtain ⟨hg1, hmay, hRE, hRL⟩ := HOK.out rfl
    clear HOK HE
    obtain ⟨hl1, -, hzb, hcol, hgap, hlz, hwi, hhe⟩ := gE1_zero hg1
    have hGr := gri_of hwi
    have hn64 := (clN_bd hcol).2
    have hn0 := clN_pos col
    have hmb := may_bd hmay
    have hcl := col_len hGr
    have hco := col_ok hGr
    have hho := hgt_len hhe
    have hud : usd (cel (clN col) s) ≤ clN col := usd_le fun c hc => (hGr.cel c hc).1
    have HPu : Hid (∀ W, Below w.heap.size w W → Calls Tryz.prog 24 #[.slice so s.length sc, .int .i64 col] W fun e w' => ∃ v us, e = .returned (.agg #[.int .i64 (clN col : Nat), v]) ∧ Hid (PlM W.heap.size w' v us (prw (clN col) s) ∧ Below W.heap.size W w')) := fun W h => put_any s col _ W (HV.out.1.below h) hl1 hcol
    have HSi : Hid (∀ lo v us W, PlM lo W v us (prw (clN col) s) → Below w.heap.size w W → Calls Tryz.prog 25 #[.agg #[.int .i64 (clN col : Nat), v], .slice zo z.length zc, .int .i64 gap] W fun e w' => ∃ a b, e = .returned (.tuple #[a, b, .int .i64 0]) ∧ Hid (IS w' a ((wsG (clN col) gap (cel (clN col) s) (z.map (·.w))).take (usd (cel (clN col) s))) ∧ IS w' b (hgt (cel (clN col) s) (z.map (·.h))) ∧ Below W.heap.size W w')) := fun lo v us W hp hb => sides_any hg1 hp (HV.out.2.below hb)
    have HCel : Hid (∀ k (hk : k < (cel (clN col) s).length), (cel (clN col) s)[k].x + (cel (clN col) s)[k].k ≤ (colG (clN col) gap (cel (clN col) s) z r.w).length ∧ 1 ≤ (cel (clN col) s)[k].k ∧ (cel (clN col) s)[k].y < (rowG gap (cel (clN col) s) z r.h).length) := fun k hk => by
      have hc := hGr.cel (cel (clN col) s)[k] (List.getElem_mem hk)
      refine ⟨?_, hc.2, ?_⟩
      · unfold colG
        rw [roL_len hco, hcl]
        exact usd_ge (List.getElem_mem hk)
      · unfold rowG
        rw [roL_len hho.2]
        have hkl : k < s.length := by rw [cel_len] at hk; exact hk
        exact ((hgt_all hn0 (l := s) (ms := z.map (·.h)) (by rw [List.length_map]; omega) (fun m hm => by obtain ⟨q, hq, rfl⟩ := List.mem_map.1 hm; exact (hzb q hq).2)).2.2 k hkl).2
    have HXb : Hid ((∀ x ∈ colG (clN col) gap (cel (clN col) s) z r.w, 0 ≤ x ∧ x ≤ 16777216) ∧ (∀ x ∈ rowG gap (cel (clN col) s) z r.h, 0 ≤ x ∧ x ≤ 16777216) ∧ (colG (clN col) gap (cel (clN col) s) z r.w).length ≤ 1024 ∧ (rowG gap (cel (clN col) s) z r.h).length ≤ 1024) := by
      have hrm : ∀ (T : List Tk) (room : Int), 0 ≤ room → rwM T gap room ≤ room := fun T room h => by
        unfold rwM
        have : 0 ≤ gap * max ((T.length : Int) - 1) 0 := Int.mul_nonneg hgap.1 (by omega)
        omega
      refine ⟨shaR_bd (trk_ok hco) (by rw [List.length_map, hcl]; omega) (Int.le_trans (hrm _ _ (by omega)) (by omega)), shaR_bd (trk_ok hho.2) (by rw [List.length_map]; exact hho.1) (Int.le_trans (hrm _ _ (by omega)) (by omega)), ?_, ?_⟩
      · unfold colG; rw [roL_len hco, hcl]; omega
      · unfold rowG; rw [roL_len hho.2]; exact hho.1
    have HRw : ∀ (l : List Int) (room : Int), (∀ x ∈ l, 0 ≤ x ∧ x ≤ 16384) → l.length ≤ 1024 → (0 ≤ room ∧ room ≤ 32768) → ∀ tv W, TS W tv (l.map trk) → Calls Tryz.prog 28 #[tv, .int .i64 gap, .int .i64 room] W fun e w' => ∃ v u, e = .returned (.tuple #[v, u, .int .i64 0]) ∧ Hid (OwI W.heap.size w' v (roL l gap room) ∧ OwI W.heap.size w' u (bgs gap 0 (roL l gap room)) ∧ Below W.heap.size W w') := fun l room h1 h2 h3 tv W hT => by
      obtain ⟨e1, e2⟩ := rwL_trk h1 h2 hgap h3
      refine (Row_any (l.map trk) gap room tv W hT).mono ?_
      rintro e w' ⟨v, u, rfl, H⟩
      have h4 := H.out
      unfold rwS at h4
      rw [e1] at h4
      rw [e2]
      exact ⟨v, u, rfl, h4.1, h4.2.1, h4.2.2.2⟩
    have HR1 : Hid (∀ tv W, TS W tv (((wsG (clN col) gap (cel (clN col) s) (z.map (·.w))).take (usd (cel (clN col) s))).map trk) → Calls Tryz.prog 28 #[tv, .int .i64 gap, .int .i64 r.w] W fun e w' => ∃ v u, e = .returned (.tuple #[v, u, .int .i64 0]) ∧ Hid (OwI W.heap.size w' v (colG (clN col) gap (cel (clN col) s) z r.w) ∧ OwI W.heap.size w' u (bgs gap 0 (colG (clN col) gap (cel (clN col) s) z r.w)) ∧ Below W.heap.size W w')) := fun tv W h => HRw _ r.w hco (by rw [hcl]; omega) (by omega) tv W h
    have HR2 : Hid (∀ tv W, TS W tv ((hgt (cel (clN col) s) (z.map (·.h))).map trk) → Calls Tryz.prog 28 #[tv, .int .i64 gap, .int .i64 r.h] W fun e w' => ∃ v u, e = .returned (.tuple #[v, u, .int .i64 0]) ∧ Hid (OwI W.heap.size w' v (rowG gap (cel (clN col) s) z r.h) ∧ OwI W.heap.size w' u (bgs gap 0 (rowG gap (cel (clN col) s) z r.h)) ∧ Below W.heap.size W w')) := fun tv W h => HRw _ r.h hho.2 hho.1 (by omega) tv W h
    have HT1 : Hid (∀ a W, IS W a ((wsG (clN col) gap (cel (clN col) s) (z.map (·.w))).take (usd (cel (clN col) s))) → Calls Tryz.prog 29 #[a] W fun e w' => ∃ b, e = .returned (.slice (some ⟨b, 0, none⟩) ((wsG (clN col) gap (cel (clN col) s) (z.map (·.w))).take (usd (cel (clN col) s))).length ((wsG (clN col) gap (cel (clN col) s) (z.map (·.w))).take (usd (cel (clN col) s))).length) ∧ Hid (TS w' (.slice (some ⟨b, 0, none⟩) ((wsG (clN col) gap (cel (clN col) s) (z.map (·.w))).take (usd (cel (clN col) s))).length ((wsG (clN col) gap (cel (clN col) s) (z.map (·.w))).take (usd (cel (clN col) s))).length) (((wsG (clN col) gap (cel (clN col) s) (z.map (·.w))).take (usd (cel (clN col) s))).map trk) ∧ Below W.heap.size W w')) := fun a W h => tracks_any _ a W h (by rw [hcl]; omega)
    have HT2 : Hid (∀ a W, IS W a (hgt (cel (clN col) s) (z.map (·.h))) → Calls Tryz.prog 29 #[a] W fun e w' => ∃ b, e = .returned (.slice (some ⟨b, 0, none⟩) (hgt (cel (clN col) s) (z.map (·.h))).length (hgt (cel (clN col) s) (z.map (·.h))).length) ∧ Hid (TS w' (.slice (some ⟨b, 0, none⟩) (hgt (cel (clN col) s) (z.map (·.h))).length (hgt (cel (clN col) s) (z.map (·.h))).length) ((hgt (cel (clN col) s) (z.map (·.h))).map trk) ∧ Below W.heap.size W w')) := fun a W h => tracks_any _ a W h hho.1
    have HRc : Hid (rcsG (clN col) gap (cel (clN col) s) z r = (cel (clN col) s).map (rcG gap (colG (clN col) gap (cel (clN col) s) z r.w) (rowG gap (cel (clN col) s) z r.h) r)) := rfl
    clear hGr hcl hco hho hud hwi hhe hzb hg1 HRw hlz
    generalize clN col = n at *
    generalize colG n gap (cel n s) z r.w = xs at *
    generalize rowG gap (cel n s) z r.h = ys at *
    generalize (wsG n gap (cel n s) (z.map (·.w))).take (usd (cel n s)) = l1 at *
    generalize hgt (cel n s) (z.map (·.h)) = l2 at *
    generalize hrl : rcsG n gap (cel n s) z r = rs at *
    clear hrl
    go_wp2_with fail
    refine (HPu.out _ HBw.out.1).mono ?_
    rintro e w3 ⟨v, us, rfl, H3⟩
    have HB3 : Hid (PlM w2.heap.size w3 v us (prw n s) ∧ Below w.heap.size w w3 ∧ Bk w3 bb #[.int .i64 r.x, .int .i64 r.y, .int .i64 r.w, .int .i64 r.h] 29 ∧ w.heap.size ≤ bb) := ⟨H3.out.1, HBw.out.1.trans (H3.out.2.mono HBw.out.1.size), HBw.out.2.1.below H3.out.2, HBw.out.2.2⟩
    obtain ⟨va, vc, e1, _, _⟩ := row_val H3.out.1.own
    subst e1
    clear H3 HBw HPu
    generalize (prw n s).length = rl at *
    have B4 : Below w3.heap.size w3 (w3.alloc (.cells #[.int .i64 (n : Nat), .slice va rl vc] 58)) := (Below.refl _ _).alloc (Nat.le_refl _) _
    have HB4 : Hid (PlM w2.heap.size (w3.alloc (.cells #[.int .i64 (n : Nat), .slice va rl vc] 58)) (.slice va rl vc) us (prw n s) ∧ Below w.heap.size w (w3.alloc (.cells #[.int .i64 (n : Nat), .slice va rl vc] 58)) ∧ Bk (w3.alloc (.cells #[.int .i64 (n : Nat), .slice va rl vc] 58)) bb #[.int .i64 r.x, .int .i64 r.y, .int .i64 r.w, .int .i64 r.h] 29 ∧ w.heap.size ≤ bb ∧ Bk (w3.alloc (.cells #[.int .i64 (n : Nat), .slice va rl vc] 58)) w3.heap.size #[.int .i64 (n : Nat), .slice va rl vc] 58) := ⟨HB3.out.1.below B4, HB3.out.2.1.trans (B4.mono HB3.out.2.1.size), HB3.out.2.2.1.below B4, HB3.out.2.2.2, Bk.new _ _ _⟩
    have HSx := HSi.out _ _ us _ HB4.out.1 HB4.out.2.1
    clear HB3 B4 HSi
    go_wp2_with fail
    refine HSx.mono ?_
    rintro e w5 ⟨a, b, rfl, H5⟩
    obtain ⟨pb, Hpb⟩ : ∃ pb, Hid (pb = w3.heap.size) := ⟨_, rfl⟩
    have HB5 : Hid (PlM w2.heap.size w5 (.slice va rl vc) us (prw n s) ∧ Below w.heap.size w w5 ∧ Bk w5 bb #[.int .i64 r.x, .int .i64 r.y, .int .i64 r.w, .int .i64 r.h] 29 ∧ w.heap.size ≤ bb ∧ Bk w5 pb #[.int .i64 (n : Nat), .slice va rl vc] 58 ∧ IS w5 a l1 ∧ IS w5 b l2) := by
      obtain ⟨a1, a2, a3, a4, a5⟩ := HB4.out
      rw [Hpb.out]
      exact ⟨a1.below H5.out.2.2, a2.trans (H5.out.2.2.mono a2.size), a3.below H5.out.2.2, a4, a5.below H5.out.2.2, H5.out.1, H5.out.2.1⟩
    rw [← Hpb.out]
    clear HB4 H5 HSx Hpb
    obtain ⟨ao, ac, e1, _, _⟩ := HB5.out.2.2.2.2.2.1
    obtain ⟨bo, bc, e2, _, _⟩ := HB5.out.2.2.2.2.2.2
    subst e1 e2
    go_upto_region 8 with fail
    go_cut [16, 17, 12] (fun s16 s17 s12 wx => ∃ ga gb v u, s16 = .pointer (some ⟨ga, 0, none⟩) ∧ s17 = .pointer (some ⟨gb, 0, none⟩) ∧ s12 = .int .i64 0 ∧ Hid (Below w5.heap.size w5 wx ∧ Bk wx ga #[v] 22 ∧ Bk wx gb #[u] 22 ∧ OwI w5.heap.size wx v xs ∧ OwI w5.heap.size wx u (bgs gap 0 xs)))
    case first =>
      have HIA : Hid (IS w5 (.slice ao l1.length ac) l1) := HB5.out.2.2.2.2.2.1
      refine wp_region_inv (I := (fun b a x => ∃ u12 u16 u17 u55 u56 u57 u58 u59 u60 u61 u62 u63 u64 u65, a = ⟨#[.slice so s.length sc, .slice zo z.length zc, .int .i64 col, .int .i64 gap, .agg #[.int .i64 r.x, .int .i64 r.y, .int .i64 r.w, .int .i64 r.h], undef, undef, undef, undef, .pointer (some ⟨bb, 0, none⟩), .slice none 0 0, .int .i64 0, u12, .pointer (some ⟨pb, 0, none⟩), .slice ao l1.length ac, .slice bo l2.length bc, u16, u17, undef, undef, undef, .slice so s.length sc, .int .i64 r1, .slice zo z.length zc, .int .i64 r4, .int .i64 col, .int .i64 r2, .int .i64 gap, .int .i64 r3, .agg #[.int .i64 r.x, .int .i64 r.y, .int .i64 r.w, .int .i64 r.h], .int .i64 r5, .slice so s.length sc, .int .i64 (s.length : Nat), .slice zo z.length zc, .int .i64 (z.length : Nat), .int .i64 r6, .slice (some ⟨g0, 0, none⟩) 6 6, .int .i64 0, .int .i64 0, .bool false, undef, .slice so s.length sc, .int .i64 col, .agg #[.int .i64 (n : Nat), .slice va rl vc], .tuple #[.slice ao l1.length ac, .slice bo l2.length bc, .int .i64 0], .agg #[.int .i64 (n : Nat), .slice va rl vc], .slice zo z.length zc, .int .i64 gap, .tuple #[.slice ao l1.length ac, .slice bo l2.length bc, .int .i64 0], .slice ao l1.length ac, .slice bo l2.length bc, .int .i64 0, .int .i64 0, .bool false, undef, u55, u56, u57, u58, u59, u60, u61, u62, u63, u64, u65, undef, undef, undef, undef, undef, undef, undef, undef, undef, undef, undef, undef, undef, undef, undef, undef, undef, undef, undef, undef, undef, undef, undef, undef, undef, undef], []⟩ ∧ Hid (JR1 w5 ao ac bb gap l1 xs r b u12 u16 u17 u55 u56 u57 u58 u59 u60 u61 u62 u63 u64 u65 x))) (by kernel_rfl) (by kernel_rfl) ?_ ?_ ?_
      · exact ⟨_, _, _, _, _, _, _, _, _, _, _, _, _, _, rfl, ⟨(fun e => by cases e), (fun e => by cases e), (fun e => by cases e), (fun e => by cases e), (fun e => by cases e), (fun e => by cases e), (fun e => by cases e), (fun e => by cases e), (fun e => by cases e), (fun e => by cases e), (fun e => by cases e), (fun e => by cases e), (fun e => by cases e), (fun e => by cases e), (fun e => by cases e), (fun e => by cases e), (Below.refl _ _).drew, HB5.out.2.2.1.drew, fun e => by cases e⟩⟩
      · intro b a x i o hI hbi ho hpre K' hK
        obtain ⟨u12, u16, u17, u55, u56, u57, u58, u59, u60, u61, u62, u63, u64, u65, rfl, HJ⟩ := hI
        have hi : i < 16 := by have := (Array.getElem?_eq_some_iff.1 ho).1; simpa using this
        rcases (show i = 0 ∨ i = 1 ∨ i = 2 ∨ i = 3 ∨ i = 4 ∨ i = 5 ∨ i = 6 ∨ i = 7 ∨ i = 8 ∨ i = 9 ∨ i = 10 ∨ i = 11 ∨ i = 12 ∨ i = 13 ∨ i = 14 ∨ i = 15 by omega) with rfl | rfl | rfl | rfl | rfl | rfl | rfl | rfl | rfl | rfl | rfl | rfl | rfl | rfl | rfl | rfl
        · injection (show some _ = some o from ho) with ho
          subst ho
          have HN : Hid (JR1 w5 ao ac bb gap l1 xs r (fun j => if j = 0 then true else b j) u12 u16 u17 u55 (.slice ao l1.length ac) u57 u58 u59 u60 u61 u62 u63 u64 u65 x) := by
            obtain ⟨j0, j1, j2, j3, j4, j5, j6, j7, j8, j9, j10, j11, j12, j13, j14, j15, e0, e1, e2⟩ := HJ.out
            exact ⟨fun _ => rfl, j1, j2, j3, j4, j5, j6, j7, j8, j9, j10, j11, j12, j13, j14, j15, e0, e1, e2⟩
          clear HJ hpre
          go_simp
          exact hK _ _ ⟨u12, u16, u17, u55, _, u57, u58, u59, u60, u61, u62, u63, u64, u65, rfl, HN⟩
        · injection (show some _ = some o from ho) with ho
          subst ho
          have p0 : b 0 = true := hpre 0 (by decide +kernel)
          obtain rfl : u56 = .slice ao l1.length ac := by obtain ⟨j0, j1, j2, j3, j4, j5, j6, j7, j8, j9, j10, j11, j12, j13, j14, j15, e0, e1, e2⟩ := HJ.out; exact (j0 p0)
          have hbx : Below w5.heap.size w5 x := by obtain ⟨j0, j1, j2, j3, j4, j5, j6, j7, j8, j9, j10, j11, j12, j13, j14, j15, e0, e1, e2⟩ := HJ.out; exact e0
          have HC := HT1.out (.slice ao l1.length ac) x (HIA.out.below hbx)
          have HN : Hid (∀ g x', Below x.heap.size x x' → TS x' (.slice (some ⟨g, 0, none⟩) l1.length l1.length) (l1.map trk) → JR1 w5 ao ac bb gap l1 xs r (fun j => if j = 1 then true else b j) u12 u16 u17 u55 (.slice ao l1.length ac) (.slice (some ⟨g, 0, none⟩) l1.length l1.length) u58 u59 u60 u61 u62 u63 u64 u65 x') := fun g x' hb ht => by
            obtain ⟨j0, j1, j2, j3, j4, j5, j6, j7, j8, j9, j10, j11, j12, j13, j14, j15, e0, e1, e2⟩ := HJ.out.grow hb
            exact ⟨j0, (fun _ => ⟨g, rfl, fun _ => ht⟩), j2, j3, j4, j5, j6, j7, j8, j9, j10, j11, j12, j13, j14, j15, e0, e1, e2⟩
          clear HJ hpre hbx
          go_simp
          refine HC.mono ?_
          rintro e x' ⟨g, rfl, H⟩
          exact hK _ _ ⟨u12, u16, u17, u55, _, _, u58, u59, u60, u61, u62, u63, u64, u65, rfl, HN.out g x' H.out.2 H.out.1⟩
        · injection (show some _ = some o from ho) with ho
          subst ho
          have HN : Hid (JR1 w5 ao ac bb gap l1 xs r (fun j => if j = 2 then true else b j) u12 u16 u17 u55 u56 u57 (.int .i64 gap) u59 u60 u61 u62 u63 u64 u65 x) := by
            obtain ⟨j0, j1, j2, j3, j4, j5, j6, j7, j8, j9, j10, j11, j12, j13, j14, j15, e0, e1, e2⟩ := HJ.out
            exact ⟨j0, j1, fun _ => rfl, j3, j4, j5, j6, j7, j8, j9, j10, j11, j12, j13, j14, j15, e0, e1, e2⟩
          clear HJ hpre
          go_simp
          exact hK _ _ ⟨u12, u16, u17, u55, u56, u57, _, u59, u60, u61, u62, u63, u64, u65, rfl, HN⟩
        · injection (show some _ = some o from ho) with ho
          subst ho
          have HN : Hid (JR1 w5 ao ac bb gap l1 xs r (fun j => if j = 3 then true else b j) u12 u16 u17 u55 u56 u57 u58 (.pointer (some ⟨bb, 2, none⟩)) u60 u61 u62 u63 u64 u65 x) := by
            obtain ⟨j0, j1, j2, j3, j4, j5, j6, j7, j8, j9, j10, j11, j12, j13, j14, j15, e0, e1, e2⟩ := HJ.out
            exact ⟨j0, j1, j2, fun _ => rfl, j4, j5, j6, j7, j8, j9, j10, j11, j12, j13, j14, j15, e0, e1, e2⟩
          clear HJ hpre
          go_simp
          exact hK _ _ ⟨u12, u16, u17, u55, u56, u57, u58, _, u60, u61, u62, u63, u64, u65, rfl, HN⟩
        · injection (show some _ = some o from ho) with ho
          subst ho
          have p3 : b 3 = true := hpre 3 (by decide +kernel)
          obtain rfl : u59 = .pointer (some ⟨bb, 2, none⟩) := by obtain ⟨j0, j1, j2, j3, j4, j5, j6, j7, j8, j9, j10, j11, j12, j13, j14, j15, e0, e1, e2⟩ := HJ.out; exact (j3 p3)
          have HN : Hid (JR1 w5 ao ac bb gap l1 xs r (fun j => if j = 4 then true else b j) u12 u16 u17 u55 u56 u57 u58 (.pointer (some ⟨bb, 2, none⟩)) (.pointer (some ⟨bb, 2, none⟩)) u61 u62 u63 u64 u65 x) := by
            obtain ⟨j0, j1, j2, j3, j4, j5, j6, j7, j8, j9, j10, j11, j12, j13, j14, j15, e0, e1, e2⟩ := HJ.out
            exact ⟨j0, j1, j2, j3, fun _ => rfl, j5, j6, j7, j8, j9, j10, j11, j12, j13, j14, j15, e0, e1, e2⟩
          clear HJ hpre
          go_simp
          exact hK _ _ ⟨u12, u16, u17, u55, u56, u57, u58, _, _, u61, u62, u63, u64, u65, rfl, HN⟩
        · injection (show some _ = some o from ho) with ho
          subst ho
          have p4 : b 4 = true := hpre 4 (by decide +kernel)
          obtain rfl : u60 = .pointer (some ⟨bb, 2, none⟩) := by obtain ⟨j0, j1, j2, j3, j4, j5, j6, j7, j8, j9, j10, j11, j12, j13, j14, j15, e0, e1, e2⟩ := HJ.out; exact (j4 p4)
          have c0 : x.cell? ⟨bb, 2, none⟩ = some (.int .i64 r.w) := by obtain ⟨j0, j1, j2, j3, j4, j5, j6, j7, j8, j9, j10, j11, j12, j13, j14, j15, e0, e1, e2⟩ := HJ.out; rw [e1.cell]; rfl
          have HN : Hid (JR1 w5 ao ac bb gap l1 xs r (fun j => if j = 5 then true else b j) u12 u16 u17 u55 u56 u57 u58 u59 (.pointer (some ⟨bb, 2, none⟩)) (.int .i64 r.w) u62 u63 u64 u65 x) := by
            obtain ⟨j0, j1, j2, j3, j4, j5, j6, j7, j8, j9, j10, j11, j12, j13, j14, j15, e0, e1, e2⟩ := HJ.out
            exact ⟨j0, j1, j2, j3, j4, fun _ => rfl, j6, j7, j8, j9, j10, j11, j12, j13, j14, j15, e0, e1, e2⟩
          clear HJ hpre
          go_simp
          exact hK _ _ ⟨u12, u16, u17, u55, u56, u57, u58, u59, _, _, u62, u63, u64, u65, rfl, HN⟩
        · injection (show some _ = some o from ho) with ho
          subst ho
          have p2 : b 2 = true := hpre 2 (by decide +kernel)
          obtain rfl : u58 = .int .i64 gap := by obtain ⟨j0, j1, j2, j3, j4, j5, j6, j7, j8, j9, j10, j11, j12, j13, j14, j15, e0, e1, e2⟩ := HJ.out; exact (j2 p2)
          have p5 : b 5 = true := hpre 5 (by decide +kernel)
          obtain rfl : u61 = .int .i64 r.w := by obtain ⟨j0, j1, j2, j3, j4, j5, j6, j7, j8, j9, j10, j11, j12, j13, j14, j15, e0, e1, e2⟩ := HJ.out; exact (j5 p5)
          have p1 : b 1 = true := hpre 1 (by decide +kernel)
          obtain ⟨g1, rfl, hts⟩ : ∃ g, u57 = .slice (some ⟨g, 0, none⟩) l1.length l1.length ∧ TS x u57 (l1.map trk) := by obtain ⟨j0, j1, j2, j3, j4, j5, j6, j7, j8, j9, j10, j11, j12, j13, j14, j15, e0, e1, e2⟩ := HJ.out; obtain ⟨g, e, h⟩ := j1 p1; exact ⟨g, e, h hbi⟩
          have hsz : w5.heap.size ≤ x.heap.size := by obtain ⟨j0, j1, j2, j3, j4, j5, j6, j7, j8, j9, j10, j11, j12, j13, j14, j15, e0, e1, e2⟩ := HJ.out; exact e0.size
          have HC := HR1.out _ x hts
          have HN : Hid (∀ v u x', Below x.heap.size x x' → OwI w5.heap.size x' v xs → OwI w5.heap.size x' u (bgs gap 0 xs) → JR1 w5 ao ac bb gap l1 xs r (fun j => if j = 6 then true else b j) u12 u16 u17 u55 u56 (.slice (some ⟨g1, 0, none⟩) l1.length l1.length) (.int .i64 gap) u59 u60 (.int .i64 r.w) (.tuple #[v, u, .int .i64 0]) u63 u64 u65 x') := fun v u x' hb h1 h2 => by
            obtain ⟨j0, j1, j2, j3, j4, j5, j6, j7, j8, j9, j10, j11, j12, j13, j14, j15, e0, e1, e2⟩ := HJ.out.grow hb
            exact ⟨j0, (fun h => ⟨g1, rfl, fun c => by cases c⟩), j2, j3, j4, j5, (fun _ => ⟨v, u, rfl, h1, h2⟩), (fun h => absurd (hbi.symm.trans (j7 h).1) (by decide)), (fun h => absurd (hbi.symm.trans (j8 h).1) (by decide)), (fun h => absurd (hbi.symm.trans (j9 h).1) (by decide)), j10, j11, j12, j13, j14, j15, e0, e1, e2⟩
          clear HJ hpre hts
          go_simp
          refine HC.mono ?_
          rintro e x' ⟨v, u, rfl, H⟩
          exact hK _ _ ⟨u12, u16, u17, u55, u56, _, _, u59, u60, _, _, u63, u64, u65, rfl, HN.out v u x' H.out.2.2 (H.out.1.weaken hsz) (H.out.2.1.weaken hsz)⟩
        · injection (show some _ = some o from ho) with ho
          subst ho
          have p6 : b 6 = true := hpre 6 (by decide +kernel)
          have HN : Hid (JR1 w5 ao ac bb gap l1 xs r (fun j => if j = 7 then true else b j) u12 u16 u17 (u62) u56 u57 u58 u59 u60 u61 u62 u63 u64 u65 x) := by
            obtain ⟨j0, j1, j2, j3, j4, j5, j6, j7, j8, j9, j10, j11, j12, j13, j14, j15, e0, e1, e2⟩ := HJ.out
            exact ⟨j0, j1, j2, j3, j4, j5, j6, (fun _ => ⟨p6, rfl⟩), j8, j9, j10, j11, j12, j13, j14, j15, e0, e1, e2⟩
          clear HJ hpre
          go_simp
          exact hK _ _ ⟨u12, u16, u17, _, u56, u57, u58, u59, u60, u61, u62, u63, u64, u65, rfl, HN⟩
        · injection (show some _ = some o from ho) with ho
          subst ho
          have p7 : b 7 = true := hpre 7 (by decide +kernel)
          obtain ⟨p6, rfl⟩ : b 6 = true ∧ u55 = u62 := by obtain ⟨j0, j1, j2, j3, j4, j5, j6, j7, j8, j9, j10, j11, j12, j13, j14, j15, e0, e1, e2⟩ := HJ.out; exact j7 p7
          obtain ⟨v, u, rfl⟩ : ∃ v u, u55 = .tuple #[v, u, .int .i64 0] := by obtain ⟨j0, j1, j2, j3, j4, j5, j6, j7, j8, j9, j10, j11, j12, j13, j14, j15, e0, e1, e2⟩ := HJ.out; obtain ⟨v, u, e, _⟩ := j6 p6; exact ⟨v, u, e⟩
          have HN : Hid (JR1 w5 ao ac bb gap l1 xs r (fun j => if j = 8 then true else b j) u12 u16 u17 (.tuple #[v, u, .int .i64 0]) u56 u57 u58 u59 u60 u61 (.tuple #[v, u, .int .i64 0]) (v) u64 u65 x) := by
            obtain ⟨j0, j1, j2, j3, j4, j5, j6, j7, j8, j9, j10, j11, j12, j13, j14, j15, e0, e1, e2⟩ := HJ.out
            exact ⟨j0, j1, j2, j3, j4, j5, j6, j7, (fun _ => ⟨p6, rfl⟩), j9, j10, (fun h => (j11 h).imp fun _ k => ⟨k.1, k.2.1, k.2.2.1, fun c => absurd (hbi.symm.trans (j13 c).2) (by decide)⟩), j12, (fun h => absurd (hbi.symm.trans (j13 h).2) (by decide)), j14, j15, e0, e1, e2⟩
          clear HJ hpre
          go_simp
          exact hK _ _ ⟨u12, u16, u17, _, u56, u57, u58, u59, u60, u61, _, _, u64, u65, rfl, HN⟩
        · injection (show some _ = some o from ho) with ho
          subst ho
          have p7 : b 7 = true := hpre 7 (by decide +kernel)
          obtain ⟨p6, rfl⟩ : b 6 = true ∧ u55 = u62 := by obtain ⟨j0, j1, j2, j3, j4, j5, j6, j7, j8, j9, j10, j11, j12, j13, j14, j15, e0, e1, e2⟩ := HJ.out; exact j7 p7
          obtain ⟨v, u, rfl⟩ : ∃ v u, u55 = .tuple #[v, u, .int .i64 0] := by obtain ⟨j0, j1, j2, j3, j4, j5, j6, j7, j8, j9, j10, j11, j12, j13, j14, j15, e0, e1, e2⟩ := HJ.out; obtain ⟨v, u, e, _⟩ := j6 p6; exact ⟨v, u, e⟩
          have HN : Hid (JR1 w5 ao ac bb gap l1 xs r (fun j => if j = 9 then true else b j) u12 u16 u17 (.tuple #[v, u, .int .i64 0]) u56 u57 u58 u59 u60 u61 (.tuple #[v, u, .int .i64 0]) u63 (u) u65 x) := by
            obtain ⟨j0, j1, j2, j3, j4, j5, j6, j7, j8, j9, j10, j11, j12, j13, j14, j15, e0, e1, e2⟩ := HJ.out
            exact ⟨j0, j1, j2, j3, j4, j5, j6, j7, j8, (fun _ => ⟨p6, rfl⟩), j10, j11, (fun h => (j12 h).imp fun _ k => ⟨k.1, k.2.1, k.2.2.1, fun c => absurd (hbi.symm.trans (j14 c).2) (by decide)⟩), j13, (fun h => absurd (hbi.symm.trans (j14 h).2) (by decide)), j15, e0, e1, e2⟩
          clear HJ hpre
          go_simp
          exact hK _ _ ⟨u12, u16, u17, _, u56, u57, u58, u59, u60, u61, _, u63, _, u65, rfl, HN⟩
        · injection (show some _ = some o from ho) with ho
          subst ho
          have p7 : b 7 = true := hpre 7 (by decide +kernel)
          obtain ⟨p6, rfl⟩ : b 6 = true ∧ u55 = u62 := by obtain ⟨j0, j1, j2, j3, j4, j5, j6, j7, j8, j9, j10, j11, j12, j13, j14, j15, e0, e1, e2⟩ := HJ.out; exact j7 p7
          obtain ⟨v, u, rfl⟩ : ∃ v u, u55 = .tuple #[v, u, .int .i64 0] := by obtain ⟨j0, j1, j2, j3, j4, j5, j6, j7, j8, j9, j10, j11, j12, j13, j14, j15, e0, e1, e2⟩ := HJ.out; obtain ⟨v, u, e, _⟩ := j6 p6; exact ⟨v, u, e⟩
          have HN : Hid (JR1 w5 ao ac bb gap l1 xs r (fun j => if j = 10 then true else b j) u12 u16 u17 (.tuple #[v, u, .int .i64 0]) u56 u57 u58 u59 u60 u61 (.tuple #[v, u, .int .i64 0]) u63 u64 (.int .i64 0) x) := by
            obtain ⟨j0, j1, j2, j3, j4, j5, j6, j7, j8, j9, j10, j11, j12, j13, j14, j15, e0, e1, e2⟩ := HJ.out
            exact ⟨j0, j1, j2, j3, j4, j5, j6, j7, j8, j9, (fun _ => rfl), j11, j12, j13, j14, j15, e0, e1, e2⟩
          clear HJ hpre
          go_simp
          exact hK _ _ ⟨u12, u16, u17, _, u56, u57, u58, u59, u60, u61, _, u63, u64, _, rfl, HN⟩
        · injection (show some _ = some o from ho) with ho
          subst ho
          have HN : Hid (JR1 w5 ao ac bb gap l1 xs r (fun j => if j = 11 then true else b j) u12 (.pointer (some ⟨x.heap.size, 0, none⟩)) u17 u55 u56 u57 u58 u59 u60 u61 u62 u63 u64 u65 (x.alloc (.cells #[.slice none 0 0] 22))) := by
            obtain ⟨j0, j1, j2, j3, j4, j5, j6, j7, j8, j9, j10, j11, j12, j13, j14, j15, e0, e1, e2⟩ := HJ.out.grow ((Below.refl _ x).alloc (Nat.le_refl _) (.cells #[.slice none 0 0] 22))
            obtain ⟨k0, k1, k2, k3, k4, k5, k6, k7, k8, k9, k10, k11, k12, k13, k14, k15, f0, f1, f2⟩ := HJ.out
            refine ⟨j0, j1, j2, j3, j4, j5, j6, j7, j8, j9, j10, (fun _ => ⟨x.heap.size, rfl, f0.size, fun _ => Bk.new _ _ _, fun c => absurd (hbi.symm.trans (j13 c).1) (by decide)⟩), j12, (fun h => absurd (hbi.symm.trans (j13 h).1) (by decide)), j14, j15, e0, e1, (fun h1 h2 e => ?_)⟩
            obtain ⟨g, eg, _, q1, q2⟩ := k12 h2
            have hl : g < x.heap.size := by
              cases c : b 14 with
              | false => exact (q1 c).lt
              | true => exact (q2 c).lt
            rw [eg] at e
            injection e with e
            injection e with e
            injection e with e
            omega
          clear HJ hpre
          go_simp
          exact hK _ _ ⟨u12, _, u17, u55, u56, u57, u58, u59, u60, u61, u62, u63, u64, u65, rfl, HN⟩
        · injection (show some _ = some o from ho) with ho
          subst ho
          have HN : Hid (JR1 w5 ao ac bb gap l1 xs r (fun j => if j = 12 then true else b j) u12 u16 (.pointer (some ⟨x.heap.size, 0, none⟩)) u55 u56 u57 u58 u59 u60 u61 u62 u63 u64 u65 (x.alloc (.cells #[.slice none 0 0] 22))) := by
            obtain ⟨j0, j1, j2, j3, j4, j5, j6, j7, j8, j9, j10, j11, j12, j13, j14, j15, e0, e1, e2⟩ := HJ.out.grow ((Below.refl _ x).alloc (Nat.le_refl _) (.cells #[.slice none 0 0] 22))
            obtain ⟨k0, k1, k2, k3, k4, k5, k6, k7, k8, k9, k10, k11, k12, k13, k14, k15, f0, f1, f2⟩ := HJ.out
            refine ⟨j0, j1, j2, j3, j4, j5, j6, j7, j8, j9, j10, j11, (fun _ => ⟨x.heap.size, rfl, f0.size, fun _ => Bk.new _ _ _, fun c => absurd (hbi.symm.trans (j14 c).1) (by decide)⟩), j13, (fun h => absurd (hbi.symm.trans (j14 h).1) (by decide)), j15, e0, e1, (fun h1 h2 e => ?_)⟩
            obtain ⟨g, eg, _, q1, q2⟩ := k11 h1
            have hl : g < x.heap.size := by
              cases c : b 13 with
              | false => exact (q1 c).lt
              | true => exact (q2 c).lt
            rw [eg] at e
            injection e with e
            injection e with e
            injection e with e
            omega
          clear HJ hpre
          go_simp
          exact hK _ _ ⟨u12, u16, _, u55, u56, u57, u58, u59, u60, u61, u62, u63, u64, u65, rfl, HN⟩
        · injection (show some _ = some o from ho) with ho
          subst ho
          have p11 : b 11 = true := hpre 11 (by decide +kernel)
          have p8 : b 8 = true := hpre 8 (by decide +kernel)
          obtain ⟨p6, ev⟩ : b 6 = true ∧ u63 = tup0 u62 := by obtain ⟨j0, j1, j2, j3, j4, j5, j6, j7, j8, j9, j10, j11, j12, j13, j14, j15, e0, e1, e2⟩ := HJ.out; exact j8 p8
          obtain ⟨v, u, rfl, o1, o2⟩ : ∃ v u, u62 = .tuple #[v, u, .int .i64 0] ∧ OwI w5.heap.size x v xs ∧ OwI w5.heap.size x u (bgs gap 0 xs) := by obtain ⟨j0, j1, j2, j3, j4, j5, j6, j7, j8, j9, j10, j11, j12, j13, j14, j15, e0, e1, e2⟩ := HJ.out; exact j6 p6
          obtain rfl : u63 = v := ev
          obtain ⟨vo, vc0, e1', _, _⟩ := row_val o1
          generalize hvn : (xs).length = vn at e1'
          clear hvn
          subst e1'
          obtain ⟨g, rfl, hlo, hz⟩ : ∃ g, u16 = .pointer (some ⟨g, 0, none⟩) ∧ w5.heap.size ≤ g ∧ Bk x g #[.slice none 0 0] 22 := by obtain ⟨j0, j1, j2, j3, j4, j5, j6, j7, j8, j9, j10, j11, j12, j13, j14, j15, e0, e1, e2⟩ := HJ.out; obtain ⟨g, e, l, k, _⟩ := j11 p11; exact ⟨g, e, l, k hbi⟩
          have z0 : x.cell? ⟨g, 0, none⟩ = some (.slice none 0 0) := by rw [hz.cell]; rfl
          have f0 := hz.frozen 0
          have HN : Hid (JR1 w5 ao ac bb gap l1 xs r (fun j => if j = 13 then true else b j) u12 (.pointer (some ⟨g, 0, none⟩)) u17 u55 u56 u57 u58 u59 u60 u61 (.tuple #[.slice vo vn vc0, u, .int .i64 0]) (.slice vo vn vc0) u64 u65 (x.setCell ⟨g, 0, none⟩ (.slice vo vn vc0))) := by
            obtain ⟨j0, j1, j2, j3, j4, j5, j6, j7, j8, j9, j10, j11, j12, j13, j14, j15, e0, e1, e2⟩ := HJ.out
            exact ⟨j0, (fun h => (j1 h).imp fun _ k => ⟨k.1, fun c => absurd (p6.symm.trans c) (by decide)⟩), j2, j3, j4, j5, (fun _ => ⟨_, u, rfl, OwI.far o1 hz, OwI.far o2 hz⟩), j7, j8, j9, j10, (fun _ => ⟨g, rfl, hlo, (fun c => by cases c), fun _ => hz.put 0 _⟩), (fun h => by obtain ⟨g2, eg, a1, a2, a3⟩ := j12 h; have hd : g ≠ g2 := fun c => e2 p11 h (by rw [eg, c]); exact ⟨g2, eg, a1, fun c => (a2 c).other _ _ hd, fun c => (a3 c).other _ _ hd⟩), (fun _ => ⟨p11, p8⟩), j14, j15, e0.setCell (p := ⟨g, 0, none⟩) hlo _, e1.other _ _ (fun c => by subst c; exact absurd (Bk.typ hz e1) (by decide)), e2⟩
          clear HJ hpre hz o1 o2
          go_simp
          exact hK _ _ ⟨u12, _, u17, u55, u56, u57, u58, u59, u60, u61, _, _, u64, u65, rfl, HN⟩
        · injection (show some _ = some o from ho) with ho
          subst ho
          have p12 : b 12 = true := hpre 12 (by decide +kernel)
          have p9 : b 9 = true := hpre 9 (by decide +kernel)
          obtain ⟨p6, ev⟩ : b 6 = true ∧ u64 = tup1 u62 := by obtain ⟨j0, j1, j2, j3, j4, j5, j6, j7, j8, j9, j10, j11, j12, j13, j14, j15, e0, e1, e2⟩ := HJ.out; exact j9 p9
          obtain ⟨v, u, rfl, o1, o2⟩ : ∃ v u, u62 = .tuple #[v, u, .int .i64 0] ∧ OwI w5.heap.size x v xs ∧ OwI w5.heap.size x u (bgs gap 0 xs) := by obtain ⟨j0, j1, j2, j3, j4, j5, j6, j7, j8, j9, j10, j11, j12, j13, j14, j15, e0, e1, e2⟩ := HJ.out; exact j6 p6
          obtain rfl : u64 = u := ev
          obtain ⟨vo, vc0, e1', _, _⟩ := row_val o2
          generalize hvn : (bgs gap 0 xs).length = vn at e1'
          clear hvn
          subst e1'
          obtain ⟨g, rfl, hlo, hz⟩ : ∃ g, u17 = .pointer (some ⟨g, 0, none⟩) ∧ w5.heap.size ≤ g ∧ Bk x g #[.slice none 0 0] 22 := by obtain ⟨j0, j1, j2, j3, j4, j5, j6, j7, j8, j9, j10, j11, j12, j13, j14, j15, e0, e1, e2⟩ := HJ.out; obtain ⟨g, e, l, k, _⟩ := j12 p12; exact ⟨g, e, l, k hbi⟩
          have z0 : x.cell? ⟨g, 0, none⟩ = some (.slice none 0 0) := by rw [hz.cell]; rfl
          have f0 := hz.frozen 0
          have HN : Hid (JR1 w5 ao ac bb gap l1 xs r (fun j => if j = 14 then true else b j) u12 u16 (.pointer (some ⟨g, 0, none⟩)) u55 u56 u57 u58 u59 u60 u61 (.tuple #[v, .slice vo vn vc0, .int .i64 0]) u63 (.slice vo vn vc0) u65 (x.setCell ⟨g, 0, none⟩ (.slice vo vn vc0))) := by
            obtain ⟨j0, j1, j2, j3, j4, j5, j6, j7, j8, j9, j10, j11, j12, j13, j14, j15, e0, e1, e2⟩ := HJ.out
            exact ⟨j0, (fun h => (j1 h).imp fun _ k => ⟨k.1, fun c => absurd (p6.symm.trans c) (by decide)⟩), j2, j3, j4, j5, (fun _ => ⟨v, _, rfl, OwI.far o1 hz, OwI.far o2 hz⟩), j7, j8, j9, j10, (fun h => by obtain ⟨g2, eg, a1, a2, a3⟩ := j11 h; have hd : g ≠ g2 := fun c => e2 h p12 (by rw [eg, c]); exact ⟨g2, eg, a1, fun c => (a2 c).other _ _ hd, fun c => (a3 c).other _ _ hd⟩), (fun _ => ⟨g, rfl, hlo, (fun c => by cases c), fun _ => hz.put 0 _⟩), j13, (fun _ => ⟨p12, p9⟩), j15, e0.setCell (p := ⟨g, 0, none⟩) hlo _, e1.other _ _ (fun c => by subst c; exact absurd (Bk.typ hz e1) (by decide)), e2⟩
          clear HJ hpre hz o1 o2
          go_simp
          exact hK _ _ ⟨u12, u16, _, u55, u56, u57, u58, u59, u60, u61, _, u63, _, u65, rfl, HN⟩
        · injection (show some _ = some o from ho) with ho
          subst ho
          have p10 : b 10 = true := hpre 10 (by decide +kernel)
          obtain rfl : u65 = .int .i64 0 := by obtain ⟨j0, j1, j2, j3, j4, j5, j6, j7, j8, j9, j10, j11, j12, j13, j14, j15, e0, e1, e2⟩ := HJ.out; exact (j10 p10)
          have HN : Hid (JR1 w5 ao ac bb gap l1 xs r (fun j => if j = 15 then true else b j) (.int .i64 0) u16 u17 u55 u56 u57 u58 u59 u60 u61 u62 u63 u64 (.int .i64 0) x) := by
            obtain ⟨j0, j1, j2, j3, j4, j5, j6, j7, j8, j9, j10, j11, j12, j13, j14, j15, e0, e1, e2⟩ := HJ.out
            exact ⟨j0, j1, j2, j3, j4, j5, j6, j7, j8, j9, j10, j11, j12, j13, j14, fun _ => rfl, e0, e1, e2⟩
          clear HJ hpre
          go_simp
          exact hK _ _ ⟨_, u16, u17, u55, u56, u57, u58, u59, u60, u61, u62, u63, u64, _, rfl, HN⟩
      · intro b a x hI hall
        obtain ⟨u12, u16, u17, u55, u56, u57, u58, u59, u60, u61, u62, u63, u64, u65, rfl, HJ⟩ := hI
        have hall' : ∀ i, i < 16 → b i = true := fun i hi => hall i (by simpa using hi)
        obtain ⟨j0, j1, j2, j3, j4, j5, j6, j7, j8, j9, j10, j11, j12, j13, j14, j15, e0, e1, e2⟩ := HJ.out
        obtain ⟨v, u, rfl, o1, o2⟩ := j6 (hall' 6 (by omega))
        obtain ⟨_, rfl⟩ := j8 (hall' 8 (by omega))
        obtain ⟨_, rfl⟩ := j9 (hall' 9 (by omega))
        obtain ⟨ga, rfl, _, _, ka⟩ := j11 (hall' 11 (by omega))
        obtain ⟨gb, rfl, _, _, kb⟩ := j12 (hall' 12 (by omega))
        obtain rfl := j15 (hall' 15 (by omega))
        have HF : Hid (Below w5.heap.size w5 x ∧ Bk x ga #[u63] 22 ∧ Bk x gb #[u64] 22 ∧ OwI w5.heap.size x u63 xs ∧ OwI w5.heap.size x u64 (bgs gap 0 xs)) := ⟨e0, ka (hall' 13 (by omega)), kb (hall' 14 (by omega)), o1, o2⟩
        clear HJ hall hall' o1 o2 ka kb j0 j1 j2 j3 j4 j5 j6 j7 j8 j9 j10 j11 j12 j13 j14 j15 e0 e1 e2
        go_wp2_with fail
        go_meet
        exact ⟨ga, gb, u63, u64, rfl, rfl, rfl, HF⟩
    obtain ⟨wb, lb, wv, lv, e16, e17, e12, HC1⟩ := hcut
    subst e16 e17 e12
    have HB6 : Hid (PlM w2.heap.size wc (.slice va rl vc) us (prw n s) ∧ Below w.heap.size w wc ∧ Bk wc bb #[.int .i64 r.x, .int .i64 r.y, .int .i64 r.w, .int .i64 r.h] 29 ∧ w.heap.size ≤ bb ∧ Bk wc pb #[.int .i64 (n : Nat), .slice va rl vc] 58 ∧ IS wc (.slice bo l2.length bc) l2 ∧ Bk wc wb #[wv] 22 ∧ Bk wc lb #[lv] 22 ∧ IS wc wv xs ∧ IS wc lv (bgs gap 0 xs)) := by
      obtain ⟨a1, a2, a3, a4, a5, _, a7⟩ := HB5.out
      obtain ⟨c1, c2, c3, c4, c5⟩ := HC1.out
      exact ⟨a1.below c1, a2.trans (c1.mono a2.size), a3.below c1, a4, a5.below c1, a7.below c1, c2, c3, c4.is, c5.is⟩
    clear HB5 HC1 HT1 HR1
    go_upto_region 11 with fail
    go_cut [18, 19, 12] (fun s16 s17 s12 wx => ∃ ga gb v u, s16 = .pointer (some ⟨ga, 0, none⟩) ∧ s17 = .pointer (some ⟨gb, 0, none⟩) ∧ s12 = .int .i64 0 ∧ Hid (Below wc.heap.size wc wx ∧ Bk wx ga #[v] 22 ∧ Bk wx gb #[u] 22 ∧ OwI wc.heap.size wx v ys ∧ OwI wc.heap.size wx u (bgs gap 0 ys)))
    case first =>
      have HIA : Hid (IS wc (.slice bo l2.length bc) l2) := HB6.out.2.2.2.2.2.1
      refine wp_region_inv (I := (fun b a x => ∃ u12 u18 u19 u69 u70 u71 u72 u73 u74 u75 u76 u77 u78 u79, a = ⟨#[.slice so s.length sc, .slice zo z.length zc, .int .i64 col, .int .i64 gap, .agg #[.int .i64 r.x, .int .i64 r.y, .int .i64 r.w, .int .i64 r.h], undef, undef, undef, undef, .pointer (some ⟨bb, 0, none⟩), .slice none 0 0, .int .i64 0, u12, .pointer (some ⟨pb, 0, none⟩), .slice ao l1.length ac, .slice bo l2.length bc, .pointer (some ⟨wb, 0, none⟩), .pointer (some ⟨lb, 0, none⟩), u18, u19, undef, u21, u22, u23, u24, u25, u26, u27, u28, u29, u30, u31, u32, u33, u34, u35, u36, u37, u38, u39, u40, u41, u42, u43, u44, u45, u46, u47, u48, u49, u50, u51, u52, u53, u54, u55, u56, u57, u58, u59, u60, u61, u62, u63, u64, u65, .int .i64 0, .bool false, u68, u69, u70, u71, u72, u73, u74, u75, u76, u77, u78, u79, u80, u81, u82, u83, u84, u85, u86, u87, u88, u89, u90, u91], []⟩ ∧ Hid (JR2 wc bo bc bb gap l2 ys r b u12 u18 u19 u69 u70 u71 u72 u73 u74 u75 u76 u77 u78 u79 x))) (by kernel_rfl) (by kernel_rfl) ?_ ?_ ?_
      · exact ⟨_, _, _, _, _, _, _, _, _, _, _, _, _, _, rfl, ⟨(fun e => by cases e), (fun e => by cases e), (fun e => by cases e), (fun e => by cases e), (fun e => by cases e), (fun e => by cases e), (fun e => by cases e), (fun e => by cases e), (fun e => by cases e), (fun e => by cases e), (fun e => by cases e), (fun e => by cases e), (fun e => by cases e), (fun e => by cases e), (fun e => by cases e), (fun e => by cases e), (Below.refl _ _).drew, HB6.out.2.2.1.drew, fun e => by cases e⟩⟩
      · intro b a x i o hI hbi ho hpre K' hK
        obtain ⟨u12, u18, u19, u69, u70, u71, u72, u73, u74, u75, u76, u77, u78, u79, rfl, HJ⟩ := hI
        have hi : i < 16 := by have := (Array.getElem?_eq_some_iff.1 ho).1; simpa using this
        rcases (show i = 0 ∨ i = 1 ∨ i = 2 ∨ i = 3 ∨ i = 4 ∨ i = 5 ∨ i = 6 ∨ i = 7 ∨ i = 8 ∨ i = 9 ∨ i = 10 ∨ i = 11 ∨ i = 12 ∨ i = 13 ∨ i = 14 ∨ i = 15 by omega) with rfl | rfl | rfl | rfl | rfl | rfl | rfl | rfl | rfl | rfl | rfl | rfl | rfl | rfl | rfl | rfl
        · injection (show some _ = some o from ho) with ho
          subst ho
          have HN : Hid (JR2 wc bo bc bb gap l2 ys r (fun j => if j = 0 then true else b j) u12 u18 u19 u69 (.slice bo l2.length bc) u71 u72 u73 u74 u75 u76 u77 u78 u79 x) := by
            obtain ⟨j0, j1, j2, j3, j4, j5, j6, j7, j8, j9, j10, j11, j12, j13, j14, j15, e0, e1, e2⟩ := HJ.out
            exact ⟨fun _ => rfl, j1, j2, j3, j4, j5, j6, j7, j8, j9, j10, j11, j12, j13, j14, j15, e0, e1, e2⟩
          clear HJ hpre
          go_simp
          exact hK _ _ ⟨u12, u18, u19, u69, _, u71, u72, u73, u74, u75, u76, u77, u78, u79, rfl, HN⟩
        · injection (show some _ = some o from ho) with ho
          subst ho
          have p0 : b 0 = true := hpre 0 (by decide +kernel)
          obtain rfl : u70 = .slice bo l2.length bc := by obtain ⟨j0, j1, j2, j3, j4, j5, j6, j7, j8, j9, j10, j11, j12, j13, j14, j15, e0, e1, e2⟩ := HJ.out; exact (j0 p0)
          have hbx : Below wc.heap.size wc x := by obtain ⟨j0, j1, j2, j3, j4, j5, j6, j7, j8, j9, j10, j11, j12, j13, j14, j15, e0, e1, e2⟩ := HJ.out; exact e0
          have HC := HT2.out (.slice bo l2.length bc) x (HIA.out.below hbx)
          have HN : Hid (∀ g x', Below x.heap.size x x' → TS x' (.slice (some ⟨g, 0, none⟩) l2.length l2.length) (l2.map trk) → JR2 wc bo bc bb gap l2 ys r (fun j => if j = 1 then true else b j) u12 u18 u19 u69 (.slice bo l2.length bc) (.slice (some ⟨g, 0, none⟩) l2.length l2.length) u72 u73 u74 u75 u76 u77 u78 u79 x') := fun g x' hb ht => by
            obtain ⟨j0, j1, j2, j3, j4, j5, j6, j7, j8, j9, j10, j11, j12, j13, j14, j15, e0, e1, e2⟩ := HJ.out.grow hb
            exact ⟨j0, (fun _ => ⟨g, rfl, fun _ => ht⟩), j2, j3, j4, j5, j6, j7, j8, j9, j10, j11, j12, j13, j14, j15, e0, e1, e2⟩
          clear HJ hpre hbx
          go_simp
          refine HC.mono ?_
          rintro e x' ⟨g, rfl, H⟩
          exact hK _ _ ⟨u12, u18, u19, u69, _, _, u72, u73, u74, u75, u76, u77, u78, u79, rfl, HN.out g x' H.out.2 H.out.1⟩
        · injection (show some _ = some o from ho) with ho
          subst ho
          have HN : Hid (JR2 wc bo bc bb gap l2 ys r (fun j => if j = 2 then true else b j) u12 u18 u19 u69 u70 u71 (.int .i64 gap) u73 u74 u75 u76 u77 u78 u79 x) := by
            obtain ⟨j0, j1, j2, j3, j4, j5, j6, j7, j8, j9, j10, j11, j12, j13, j14, j15, e0, e1, e2⟩ := HJ.out
            exact ⟨j0, j1, fun _ => rfl, j3, j4, j5, j6, j7, j8, j9, j10, j11, j12, j13, j14, j15, e0, e1, e2⟩
          clear HJ hpre
          go_simp
          exact hK _ _ ⟨u12, u18, u19, u69, u70, u71, _, u73, u74, u75, u76, u77, u78, u79, rfl, HN⟩
        · injection (show some _ = some o from ho) with ho
          subst ho
          have HN : Hid (JR2 wc bo bc bb gap l2 ys r (fun j => if j = 3 then true else b j) u12 u18 u19 u69 u70 u71 u72 (.pointer (some ⟨bb, 2, none⟩)) u74 u75 u76 u77 u78 u79 x) := by
            obtain ⟨j0, j1, j2, j3, j4, j5, j6, j7, j8, j9, j10, j11, j12, j13, j14, j15, e0, e1, e2⟩ := HJ.out
            exact ⟨j0, j1, j2, fun _ => rfl, j4, j5, j6, j7, j8, j9, j10, j11, j12, j13, j14, j15, e0, e1, e2⟩
          clear HJ hpre
          go_simp
          exact hK _ _ ⟨u12, u18, u19, u69, u70, u71, u72, _, u74, u75, u76, u77, u78, u79, rfl, HN⟩
        · injection (show some _ = some o from ho) with ho
          subst ho
          have p3 : b 3 = true := hpre 3 (by decide +kernel)
          obtain rfl : u73 = .pointer (some ⟨bb, 2, none⟩) := by obtain ⟨j0, j1, j2, j3, j4, j5, j6, j7, j8, j9, j10, j11, j12, j13, j14, j15, e0, e1, e2⟩ := HJ.out; exact (j3 p3)
          have HN : Hid (JR2 wc bo bc bb gap l2 ys r (fun j => if j = 4 then true else b j) u12 u18 u19 u69 u70 u71 u72 (.pointer (some ⟨bb, 2, none⟩)) (.pointer (some ⟨bb, 3, none⟩)) u75 u76 u77 u78 u79 x) := by
            obtain ⟨j0, j1, j2, j3, j4, j5, j6, j7, j8, j9, j10, j11, j12, j13, j14, j15, e0, e1, e2⟩ := HJ.out
            exact ⟨j0, j1, j2, j3, fun _ => rfl, j5, j6, j7, j8, j9, j10, j11, j12, j13, j14, j15, e0, e1, e2⟩
          clear HJ hpre
          go_simp
          exact hK _ _ ⟨u12, u18, u19, u69, u70, u71, u72, _, _, u75, u76, u77, u78, u79, rfl, HN⟩
        · injection (show some _ = some o from ho) with ho
          subst ho
          have p4 : b 4 = true := hpre 4 (by decide +kernel)
          obtain rfl : u74 = .pointer (some ⟨bb, 3, none⟩) := by obtain ⟨j0, j1, j2, j3, j4, j5, j6, j7, j8, j9, j10, j11, j12, j13, j14, j15, e0, e1, e2⟩ := HJ.out; exact (j4 p4)
          have c0 : x.cell? ⟨bb, 3, none⟩ = some (.int .i64 r.h) := by obtain ⟨j0, j1, j2, j3, j4, j5, j6, j7, j8, j9, j10, j11, j12, j13, j14, j15, e0, e1, e2⟩ := HJ.out; rw [e1.cell]; rfl
          have HN : Hid (JR2 wc bo bc bb gap l2 ys r (fun j => if j = 5 then true else b j) u12 u18 u19 u69 u70 u71 u72 u73 (.pointer (some ⟨bb, 3, none⟩)) (.int .i64 r.h) u76 u77 u78 u79 x) := by
            obtain ⟨j0, j1, j2, j3, j4, j5, j6, j7, j8, j9, j10, j11, j12, j13, j14, j15, e0, e1, e2⟩ := HJ.out
            exact ⟨j0, j1, j2, j3, j4, fun _ => rfl, j6, j7, j8, j9, j10, j11, j12, j13, j14, j15, e0, e1, e2⟩
          clear HJ hpre
          go_simp
          exact hK _ _ ⟨u12, u18, u19, u69, u70, u71, u72, u73, _, _, u76, u77, u78, u79, rfl, HN⟩
        · injection (show some _ = some o from ho) with ho
          subst ho
          have p2 : b 2 = true := hpre 2 (by decide +kernel)
          obtain rfl : u72 = .int .i64 gap := by obtain ⟨j0, j1, j2, j3, j4, j5, j6, j7, j8, j9, j10, j11, j12, j13, j14, j15, e0, e1, e2⟩ := HJ.out; exact (j2 p2)
          have p5 : b 5 = true := hpre 5 (by decide +kernel)
          obtain rfl : u75 = .int .i64 r.h := by obtain ⟨j0, j1, j2, j3, j4, j5, j6, j7, j8, j9, j10, j11, j12, j13, j14, j15, e0, e1, e2⟩ := HJ.out; exact (j5 p5)
          have p1 : b 1 = true := hpre 1 (by decide +kernel)
          obtain ⟨g1, rfl, hts⟩ : ∃ g, u71 = .slice (some ⟨g, 0, none⟩) l2.length l2.length ∧ TS x u71 (l2.map trk) := by obtain ⟨j0, j1, j2, j3, j4, j5, j6, j7, j8, j9, j10, j11, j12, j13, j14, j15, e0, e1, e2⟩ := HJ.out; obtain ⟨g, e, h⟩ := j1 p1; exact ⟨g, e, h hbi⟩
          have hsz : wc.heap.size ≤ x.heap.size := by obtain ⟨j0, j1, j2, j3, j4, j5, j6, j7, j8, j9, j10, j11, j12, j13, j14, j15, e0, e1, e2⟩ := HJ.out; exact e0.size
          have HC := HR2.out _ x hts
          have HN : Hid (∀ v u x', Below x.heap.size x x' → OwI wc.heap.size x' v ys → OwI wc.heap.size x' u (bgs gap 0 ys) → JR2 wc bo bc bb gap l2 ys r (fun j => if j = 6 then true else b j) u12 u18 u19 u69 u70 (.slice (some ⟨g1, 0, none⟩) l2.length l2.length) (.int .i64 gap) u73 u74 (.int .i64 r.h) (.tuple #[v, u, .int .i64 0]) u77 u78 u79 x') := fun v u x' hb h1 h2 => by
            obtain ⟨j0, j1, j2, j3, j4, j5, j6, j7, j8, j9, j10, j11, j12, j13, j14, j15, e0, e1, e2⟩ := HJ.out.grow hb
            exact ⟨j0, (fun h => ⟨g1, rfl, fun c => by cases c⟩), j2, j3, j4, j5, (fun _ => ⟨v, u, rfl, h1, h2⟩), (fun h => absurd (hbi.symm.trans (j7 h).1) (by decide)), (fun h => absurd (hbi.symm.trans (j8 h).1) (by decide)), (fun h => absurd (hbi.symm.trans (j9 h).1) (by decide)), j10, j11, j12, j13, j14, j15, e0, e1, e2⟩
          clear HJ hpre hts
          go_simp
          refine HC.mono ?_
          rintro e x' ⟨v, u, rfl, H⟩
          exact hK _ _ ⟨u12, u18, u19, u69, u70, _, _, u73, u74, _, _, u77, u78, u79, rfl, HN.out v u x' H.out.2.2 (H.out.1.weaken hsz) (H.out.2.1.weaken hsz)⟩
        · injection (show some _ = some o from ho) with ho
          subst ho
          have p6 : b 6 = true := hpre 6 (by decide +kernel)
          have HN : Hid (JR2 wc bo bc bb gap l2 ys r (fun j => if j = 7 then true else b j) u12 u18 u19 (u76) u70 u71 u72 u73 u74 u75 u76 u77 u78 u79 x) := by
            obtain ⟨j0, j1, j2, j3, j4, j5, j6, j7, j8, j9, j10, j11, j12, j13, j14, j15, e0, e1, e2⟩ := HJ.out
            exact ⟨j0, j1, j2, j3, j4, j5, j6, (fun _ => ⟨p6, rfl⟩), j8, j9, j10, j11, j12, j13, j14, j15, e0, e1, e2⟩
          clear HJ hpre
          go_simp
          exact hK _ _ ⟨u12, u18, u19, _, u70, u71, u72, u73, u74, u75, u76, u77, u78, u79, rfl, HN⟩
        · injection (show some _ = some o from ho) with ho
          subst ho
          have p7 : b 7 = true := hpre 7 (by decide +kernel)
          obtain ⟨p6, rfl⟩ : b 6 = true ∧ u69 = u76 := by obtain ⟨j0, j1, j2, j3, j4, j5, j6, j7, j8, j9, j10, j11, j12, j13, j14, j15, e0, e1, e2⟩ := HJ.out; exact j7 p7
          obtain ⟨v, u, rfl⟩ : ∃ v u, u69 = .tuple #[v, u, .int .i64 0] := by obtain ⟨j0, j1, j2, j3, j4, j5, j6, j7, j8, j9, j10, j11, j12, j13, j14, j15, e0, e1, e2⟩ := HJ.out; obtain ⟨v, u, e, _⟩ := j6 p6; exact ⟨v, u, e⟩
          have HN : Hid (JR2 wc bo bc bb gap l2 ys r (fun j => if j = 8 then true else b j) u12 u18 u19 (.tuple #[v, u, .int .i64 0]) u70 u71 u72 u73 u74 u75 (.tuple #[v, u, .int .i64 0]) (v) u78 u79 x) := by
            obtain ⟨j0, j1, j2, j3, j4, j5, j6, j7, j8, j9, j10, j11, j12, j13, j14, j15, e0, e1, e2⟩ := HJ.out
            exact ⟨j0, j1, j2, j3, j4, j5, j6, j7, (fun _ => ⟨p6, rfl⟩), j9, j10, (fun h => (j11 h).imp fun _ k => ⟨k.1, k.2.1, k.2.2.1, fun c => absurd (hbi.symm.trans (j13 c).2) (by decide)⟩), j12, (fun h => absurd (hbi.symm.trans (j13 h).2) (by decide)), j14, j15, e0, e1, e2⟩
          clear HJ hpre
          go_simp
          exact hK _ _ ⟨u12, u18, u19, _, u70, u71, u72, u73, u74, u75, _, _, u78, u79, rfl, HN⟩
        · injection (show some _ = some o from ho) with ho
          subst ho
          have p7 : b 7 = true := hpre 7 (by decide +kernel)
          obtain ⟨p6, rfl⟩ : b 6 = true ∧ u69 = u76 := by obtain ⟨j0, j1, j2, j3, j4, j5, j6, j7, j8, j9, j10, j11, j12, j13, j14, j15, e0, e1, e2⟩ := HJ.out; exact j7 p7
          obtain ⟨v, u, rfl⟩ : ∃ v u, u69 = .tuple #[v, u, .int .i64 0] := by obtain ⟨j0, j1, j2, j3, j4, j5, j6, j7, j8, j9, j10, j11, j12, j13, j14, j15, e0, e1, e2⟩ := HJ.out; obtain ⟨v, u, e, _⟩ := j6 p6; exact ⟨v, u, e⟩
          have HN : Hid (JR2 wc bo bc bb gap l2 ys r (fun j => if j = 9 then true else b j) u12 u18 u19 (.tuple #[v, u, .int .i64 0]) u70 u71 u72 u73 u74 u75 (.tuple #[v, u, .int .i64 0]) u77 (u) u79 x) := by
            obtain ⟨j0, j1, j2, j3, j4, j5, j6, j7, j8, j9, j10, j11, j12, j13, j14, j15, e0, e1, e2⟩ := HJ.out
            exact ⟨j0, j1, j2, j3, j4, j5, j6, j7, j8, (fun _ => ⟨p6, rfl⟩), j10, j11, (fun h => (j12 h).imp fun _ k => ⟨k.1, k.2.1, k.2.2.1, fun c => absurd (hbi.symm.trans (j14 c).2) (by decide)⟩), j13, (fun h => absurd (hbi.symm.trans (j14 h).2) (by decide)), j15, e0, e1, e2⟩
          clear HJ hpre
          go_simp
          exact hK _ _ ⟨u12, u18, u19, _, u70, u71, u72, u73, u74, u75, _, u77, _, u79, rfl, HN⟩
        · injection (show some _ = some o from ho) with ho
          subst ho
          have p7 : b 7 = true := hpre 7 (by decide +kernel)
          obtain ⟨p6, rfl⟩ : b 6 = true ∧ u69 = u76 := by obtain ⟨j0, j1, j2, j3, j4, j5, j6, j7, j8, j9, j10, j11, j12, j13, j14, j15, e0, e1, e2⟩ := HJ.out; exact j7 p7
          obtain ⟨v, u, rfl⟩ : ∃ v u, u69 = .tuple #[v, u, .int .i64 0] := by obtain ⟨j0, j1, j2, j3, j4, j5, j6, j7, j8, j9, j10, j11, j12, j13, j14, j15, e0, e1, e2⟩ := HJ.out; obtain ⟨v, u, e, _⟩ := j6 p6; exact ⟨v, u, e⟩
          have HN : Hid (JR2 wc bo bc bb gap l2 ys r (fun j => if j = 10 then true else b j) u12 u18 u19 (.tuple #[v, u, .int .i64 0]) u70 u71 u72 u73 u74 u75 (.tuple #[v, u, .int .i64 0]) u77 u78 (.int .i64 0) x) := by
            obtain ⟨j0, j1, j2, j3, j4, j5, j6, j7, j8, j9, j10, j11, j12, j13, j14, j15, e0, e1, e2⟩ := HJ.out
            exact ⟨j0, j1, j2, j3, j4, j5, j6, j7, j8, j9, (fun _ => rfl), j11, j12, j13, j14, j15, e0, e1, e2⟩
          clear HJ hpre
          go_simp
          exact hK _ _ ⟨u12, u18, u19, _, u70, u71, u72, u73, u74, u75, _, u77, u78, _, rfl, HN⟩
        · injection (show some _ = some o from ho) with ho
          subst ho
          have HN : Hid (JR2 wc bo bc bb gap l2 ys r (fun j => if j = 11 then true else b j) u12 (.pointer (some ⟨x.heap.size, 0, none⟩)) u19 u69 u70 u71 u72 u73 u74 u75 u76 u77 u78 u79 (x.alloc (.cells #[.slice none 0 0] 22))) := by
            obtain ⟨j0, j1, j2, j3, j4, j5, j6, j7, j8, j9, j10, j11, j12, j13, j14, j15, e0, e1, e2⟩ := HJ.out.grow ((Below.refl _ x).alloc (Nat.le_refl _) (.cells #[.slice none 0 0] 22))
            obtain ⟨k0, k1, k2, k3, k4, k5, k6, k7, k8, k9, k10, k11, k12, k13, k14, k15, f0, f1, f2⟩ := HJ.out
            refine ⟨j0, j1, j2, j3, j4, j5, j6, j7, j8, j9, j10, (fun _ => ⟨x.heap.size, rfl, f0.size, fun _ => Bk.new _ _ _, fun c => absurd (hbi.symm.trans (j13 c).1) (by decide)⟩), j12, (fun h => absurd (hbi.symm.trans (j13 h).1) (by decide)), j14, j15, e0, e1, (fun h1 h2 e => ?_)⟩
            obtain ⟨g, eg, _, q1, q2⟩ := k12 h2
            have hl : g < x.heap.size := by
              cases c : b 14 with
              | false => exact (q1 c).lt
              | true => exact (q2 c).lt
            rw [eg] at e
            injection e with e
            injection e with e
            injection e with e
            omega
          clear HJ hpre
          go_simp
          exact hK _ _ ⟨u12, _, u19, u69, u70, u71, u72, u73, u74, u75, u76, u77, u78, u79, rfl, HN⟩
        · injection (show some _ = some o from ho) with ho
          subst ho
          have HN : Hid (JR2 wc bo bc bb gap l2 ys r (fun j => if j = 12 then true else b j) u12 u18 (.pointer (some ⟨x.heap.size, 0, none⟩)) u69 u70 u71 u72 u73 u74 u75 u76 u77 u78 u79 (x.alloc (.cells #[.slice none 0 0] 22))) := by
            obtain ⟨j0, j1, j2, j3, j4, j5, j6, j7, j8, j9, j10, j11, j12, j13, j14, j15, e0, e1, e2⟩ := HJ.out.grow ((Below.refl _ x).alloc (Nat.le_refl _) (.cells #[.slice none 0 0] 22))
            obtain ⟨k0, k1, k2, k3, k4, k5, k6, k7, k8, k9, k10, k11, k12, k13, k14, k15, f0, f1, f2⟩ := HJ.out
            refine ⟨j0, j1, j2, j3, j4, j5, j6, j7, j8, j9, j10, j11, (fun _ => ⟨x.heap.size, rfl, f0.size, fun _ => Bk.new _ _ _, fun c => absurd (hbi.symm.trans (j14 c).1) (by decide)⟩), j13, (fun h => absurd (hbi.symm.trans (j14 h).1) (by decide)), j15, e0, e1, (fun h1 h2 e => ?_)⟩
            obtain ⟨g, eg, _, q1, q2⟩ := k11 h1
            have hl : g < x.heap.size := by
              cases c : b 13 with
              | false => exact (q1 c).lt
              | true => exact (q2 c).lt
            rw [eg] at e
            injection e with e
            injection e with e
            injection e with e
            omega
          clear HJ hpre
          go_simp
          exact hK _ _ ⟨u12, u18, _, u69, u70, u71, u72, u73, u74, u75, u76, u77, u78, u79, rfl, HN⟩
        · injection (show some _ = some o from ho) with ho
          subst ho
          have p11 : b 11 = true := hpre 11 (by decide +kernel)
          have p8 : b 8 = true := hpre 8 (by decide +kernel)
          obtain ⟨p6, ev⟩ : b 6 = true ∧ u77 = tup0 u76 := by obtain ⟨j0, j1, j2, j3, j4, j5, j6, j7, j8, j9, j10, j11, j12, j13, j14, j15, e0, e1, e2⟩ := HJ.out; exact j8 p8
          obtain ⟨v, u, rfl, o1, o2⟩ : ∃ v u, u76 = .tuple #[v, u, .int .i64 0] ∧ OwI wc.heap.size x v ys ∧ OwI wc.heap.size x u (bgs gap 0 ys) := by obtain ⟨j0, j1, j2, j3, j4, j5, j6, j7, j8, j9, j10, j11, j12, j13, j14, j15, e0, e1, e2⟩ := HJ.out; exact j6 p6
          obtain rfl : u77 = v := ev
          obtain ⟨vo, vc0, e1', _, _⟩ := row_val o1
          generalize hvn : (ys).length = vn at e1'
          clear hvn
          subst e1'
          obtain ⟨g, rfl, hlo, hz⟩ : ∃ g, u18 = .pointer (some ⟨g, 0, none⟩) ∧ wc.heap.size ≤ g ∧ Bk x g #[.slice none 0 0] 22 := by obtain ⟨j0, j1, j2, j3, j4, j5, j6, j7, j8, j9, j10, j11, j12, j13, j14, j15, e0, e1, e2⟩ := HJ.out; obtain ⟨g, e, l, k, _⟩ := j11 p11; exact ⟨g, e, l, k hbi⟩
          have z0 : x.cell? ⟨g, 0, none⟩ = some (.slice none 0 0) := by rw [hz.cell]; rfl
          have f0 := hz.frozen 0
          have HN : Hid (JR2 wc bo bc bb gap l2 ys r (fun j => if j = 13 then true else b j) u12 (.pointer (some ⟨g, 0, none⟩)) u19 u69 u70 u71 u72 u73 u74 u75 (.tuple #[.slice vo vn vc0, u, .int .i64 0]) (.slice vo vn vc0) u78 u79 (x.setCell ⟨g, 0, none⟩ (.slice vo vn vc0))) := by
            obtain ⟨j0, j1, j2, j3, j4, j5, j6, j7, j8, j9, j10, j11, j12, j13, j14, j15, e0, e1, e2⟩ := HJ.out
            exact ⟨j0, (fun h => (j1 h).imp fun _ k => ⟨k.1, fun c => absurd (p6.symm.trans c) (by decide)⟩), j2, j3, j4, j5, (fun _ => ⟨_, u, rfl, OwI.far o1 hz, OwI.far o2 hz⟩), j7, j8, j9, j10, (fun _ => ⟨g, rfl, hlo, (fun c => by cases c), fun _ => hz.put 0 _⟩), (fun h => by obtain ⟨g2, eg, a1, a2, a3⟩ := j12 h; have hd : g ≠ g2 := fun c => e2 p11 h (by rw [eg, c]); exact ⟨g2, eg, a1, fun c => (a2 c).other _ _ hd, fun c => (a3 c).other _ _ hd⟩), (fun _ => ⟨p11, p8⟩), j14, j15, e0.setCell (p := ⟨g, 0, none⟩) hlo _, e1.other _ _ (fun c => by subst c; exact absurd (Bk.typ hz e1) (by decide)), e2⟩
          clear HJ hpre hz o1 o2
          go_simp
          exact hK _ _ ⟨u12, _, u19, u69, u70, u71, u72, u73, u74, u75, _, _, u78, u79, rfl, HN⟩
        · injection (show some _ = some o from ho) with ho
          subst ho
          have p12 : b 12 = true := hpre 12 (by decide +kernel)
          have p9 : b 9 = true := hpre 9 (by decide +kernel)
          obtain ⟨p6, ev⟩ : b 6 = true ∧ u78 = tup1 u76 := by obtain ⟨j0, j1, j2, j3, j4, j5, j6, j7, j8, j9, j10, j11, j12, j13, j14, j15, e0, e1, e2⟩ := HJ.out; exact j9 p9
          obtain ⟨v, u, rfl, o1, o2⟩ : ∃ v u, u76 = .tuple #[v, u, .int .i64 0] ∧ OwI wc.heap.size x v ys ∧ OwI wc.heap.size x u (bgs gap 0 ys) := by obtain ⟨j0, j1, j2, j3, j4, j5, j6, j7, j8, j9, j10, j11, j12, j13, j14, j15, e0, e1, e2⟩ := HJ.out; exact j6 p6
          obtain rfl : u78 = u := ev
          obtain ⟨vo, vc0, e1', _, _⟩ := row_val o2
          generalize hvn : (bgs gap 0 ys).length = vn at e1'
          clear hvn
          subst e1'
          obtain ⟨g, rfl, hlo, hz⟩ : ∃ g, u19 = .pointer (some ⟨g, 0, none⟩) ∧ wc.heap.size ≤ g ∧ Bk x g #[.slice none 0 0] 22 := by obtain ⟨j0, j1, j2, j3, j4, j5, j6, j7, j8, j9, j10, j11, j12, j13, j14, j15, e0, e1, e2⟩ := HJ.out; obtain ⟨g, e, l, k, _⟩ := j12 p12; exact ⟨g, e, l, k hbi⟩
          have z0 : x.cell? ⟨g, 0, none⟩ = some (.slice none 0 0) := by rw [hz.cell]; rfl
          have f0 := hz.frozen 0
          have HN : Hid (JR2 wc bo bc bb gap l2 ys r (fun j => if j = 14 then true else b j) u12 u18 (.pointer (some ⟨g, 0, none⟩)) u69 u70 u71 u72 u73 u74 u75 (.tuple #[v, .slice vo vn vc0, .int .i64 0]) u77 (.slice vo vn vc0) u79 (x.setCell ⟨g, 0, none⟩ (.slice vo vn vc0))) := by
            obtain ⟨j0, j1, j2, j3, j4, j5, j6, j7, j8, j9, j10, j11, j12, j13, j14, j15, e0, e1, e2⟩ := HJ.out
            exact ⟨j0, (fun h => (j1 h).imp fun _ k => ⟨k.1, fun c => absurd (p6.symm.trans c) (by decide)⟩), j2, j3, j4, j5, (fun _ => ⟨v, _, rfl, OwI.far o1 hz, OwI.far o2 hz⟩), j7, j8, j9, j10, (fun h => by obtain ⟨g2, eg, a1, a2, a3⟩ := j11 h; have hd : g ≠ g2 := fun c => e2 h p12 (by rw [eg, c]); exact ⟨g2, eg, a1, fun c => (a2 c).other _ _ hd, fun c => (a3 c).other _ _ hd⟩), (fun _ => ⟨g, rfl, hlo, (fun c => by cases c), fun _ => hz.put 0 _⟩), j13, (fun _ => ⟨p12, p9⟩), j15, e0.setCell (p := ⟨g, 0, none⟩) hlo _, e1.other _ _ (fun c => by subst c; exact absurd (Bk.typ hz e1) (by decide)), e2⟩
          clear HJ hpre hz o1 o2
          go_simp
          exact hK _ _ ⟨u12, u18, _, u69, u70, u71, u72, u73, u74, u75, _, u77, _, u79, rfl, HN⟩
        · injection (show some _ = some o from ho) with ho
          subst ho
          have p10 : b 10 = true := hpre 10 (by decide +kernel)
          obtain rfl : u79 = .int .i64 0 := by obtain ⟨j0, j1, j2, j3, j4, j5, j6, j7, j8, j9, j10, j11, j12, j13, j14, j15, e0, e1, e2⟩ := HJ.out; exact (j10 p10)
          have HN : Hid (JR2 wc bo bc bb gap l2 ys r (fun j => if j = 15 then true else b j) (.int .i64 0) u18 u19 u69 u70 u71 u72 u73 u74 u75 u76 u77 u78 (.int .i64 0) x) := by
            obtain ⟨j0, j1, j2, j3, j4, j5, j6, j7, j8, j9, j10, j11, j12, j13, j14, j15, e0, e1, e2⟩ := HJ.out
            exact ⟨j0, j1, j2, j3, j4, j5, j6, j7, j8, j9, j10, j11, j12, j13, j14, fun _ => rfl, e0, e1, e2⟩
          clear HJ hpre
          go_simp
          exact hK _ _ ⟨_, u18, u19, u69, u70, u71, u72, u73, u74, u75, u76, u77, u78, _, rfl, HN⟩
      · intro b a x hI hall
        obtain ⟨u12, u18, u19, u69, u70, u71, u72, u73, u74, u75, u76, u77, u78, u79, rfl, HJ⟩ := hI
        have hall' : ∀ i, i < 16 → b i = true := fun i hi => hall i (by simpa using hi)
        obtain ⟨j0, j1, j2, j3, j4, j5, j6, j7, j8, j9, j10, j11, j12, j13, j14, j15, e0, e1, e2⟩ := HJ.out
        obtain ⟨v, u, rfl, o1, o2⟩ := j6 (hall' 6 (by omega))
        obtain ⟨_, rfl⟩ := j8 (hall' 8 (by omega))
        obtain ⟨_, rfl⟩ := j9 (hall' 9 (by omega))
        obtain ⟨ga, rfl, _, _, ka⟩ := j11 (hall' 11 (by omega))
        obtain ⟨gb, rfl, _, _, kb⟩ := j12 (hall' 12 (by omega))
        obtain rfl := j15 (hall' 15 (by omega))
        have HF : Hid (Below wc.heap.size wc x ∧ Bk x ga #[u77] 22 ∧ Bk x gb #[u78] 22 ∧ OwI wc.heap.size x u77 ys ∧ OwI wc.heap.size x u78 (bgs gap 0 ys)) := ⟨e0, ka (hall' 13 (by omega)), kb (hall' 14 (by omega)), o1, o2⟩
        clear HJ hall hall' o1 o2 ka kb j0 j1 j2 j3 j4 j5 j6 j7 j8 j9 j10 j11 j12 j13 j14 j15 e0 e1 e2
        go_wp2_with fail
        go_meet
        exact ⟨ga, gb, u77, u78, rfl, rfl, rfl, HF⟩
    obtain ⟨hb, tb, hv, tv, e16, e17, e12, HC2⟩ := hcut
    subst e16 e17 e12
    have HB7 : Hid (PlM w2.heap.size wc (.slice va rl vc) us (prw n s) ∧ Below w.heap.size w wc ∧ Bk wc bb #[.int .i64 r.x, .int .i64 r.y, .int .i64 r.w, .int .i64 r.h] 29 ∧ Bk wc pb #[.int .i64 (n : Nat), .slice va rl vc] 58 ∧ Bk wc wb #[wv] 22 ∧ Bk wc lb #[lv] 22 ∧ Bk wc hb #[hv] 22 ∧ Bk wc tb #[tv] 22 ∧ IS wc wv xs ∧ IS wc lv (bgs gap 0 xs) ∧ IS wc hv ys ∧ IS wc tv (bgs gap 0 ys)) := by
      obtain ⟨a1, a2, a3, a4, a5, a6, a7, a8, a9, a10⟩ := HB6.out
      obtain ⟨c1, c2, c3, c4, c5⟩ := HC2.out
      exact ⟨a1.below c1, a2.trans (c1.mono a2.size), a3.below c1, a5.below c1, a7.below c1, a8.below c1, c2, c3, a9.below c1, a10.below c1, c4.is, c5.is⟩
    clear HB6 HC2 HT2 HR2
    have hbX := bgs_mem hgap HXb.out.1 HXb.out.2.2.1
    have hbY := bgs_mem hgap HXb.out.2.1 HXb.out.2.2.2
    have HRI : Hid (∀ q ∈ rs, I64 q.x ∧ I64 q.y) := fun q hq => by
      rw [HRc.out] at hq
      obtain ⟨c, hc, rfl⟩ := List.mem_map.1 hq
      obtain ⟨k, hk, rfl⟩ := List.mem_iff_getElem.1 hc
      obtain ⟨d1, d2, d3⟩ := HCel.out k hk
      have g1 : 0 ≤ beg gap xs (cel n s)[k].x ∧ beg gap xs (cel n s)[k].x ≤ 100000000000 := by
        unfold beg
        rw [List.getD_eq_getElem?_getD, List.getElem?_eq_getElem (by rw [bgs_len]; omega)]
        exact hbX _ (List.getElem_mem _)
      have g2 : 0 ≤ beg gap ys (cel n s)[k].y ∧ beg gap ys (cel n s)[k].y ≤ 100000000000 := by
        unfold beg
        rw [List.getD_eq_getElem?_getD, List.getElem?_eq_getElem (by rw [bgs_len]; omega)]
        exact hbY _ (List.getElem_mem _)
      unfold rcG I64
      simp only
      omega
    have HE : Hid (∀ (rb : Nat) (rv : Value) (W : World), wc.heap.size ≤ rb → Below wc.heap.size wc W → Bk W rb #[rv] 37 → OwK 29 4 fR wc.heap.size W rv [] → Calls Tryz.prog 30 #[.agg #[.int .i64 (n : Nat), .slice va rl vc], .func (.func 31) #[] #[.pointer (some ⟨lb, 0, none⟩), .pointer (some ⟨rb, 0, none⟩), .pointer (some ⟨bb, 0, none⟩), .pointer (some ⟨tb, 0, none⟩), .pointer (some ⟨wb, 0, none⟩), .pointer (some ⟨hb, 0, none⟩)]] W fun e w' => e = .returned (.tuple #[]) ∧ Hid (Below wc.heap.size wc w' ∧ ∃ rv', Bk w' rb #[rv'] 37 ∧ OwK 29 4 fR wc.heap.size w' rv' rs)) := by
      intro rb rv W hrb hbW k1 k2
      obtain ⟨a1, a2, a3, a4, a5, a6, a7, a8, a9, a10, a11, a12⟩ := HB7.out
      have hrl : rs.length = s.length := by rw [HRc.out, List.length_map, cel_len]
      have := each_prw hn0 hl1 (v := .slice va rl vc) (us := us) (F := 31) (caps := #[.pointer (some ⟨lb, 0, none⟩), .pointer (some ⟨rb, 0, none⟩), .pointer (some ⟨bb, 0, none⟩), .pointer (some ⟨tb, 0, none⟩), .pointer (some ⟨wb, 0, none⟩), .pointer (some ⟨hb, 0, none⟩)]) (I := fun k W => Below wc.heap.size wc W ∧ ∃ rv, Bk W rb #[rv] 37 ∧ OwK 29 4 fR wc.heap.size W rv (rs.take k)) rects1_enters (fun k W h => (a1.below h.1).rs) (fun k W W' h hb => ⟨h.1.trans (hb.mono h.1.size), h.2.imp fun _ q => ⟨q.1.below hb, q.2.below hb⟩⟩) (fun k hk W h => ?_) W ⟨hbW, rv, k1, k2⟩
      · refine this.mono ?_
        rintro e w' ⟨rfl, H⟩
        obtain ⟨b1, rv', b2, b3⟩ := H.out
        rw [List.take_of_length_le (by rw [hrl]; exact Nat.le_refl _)] at b3
        exact ⟨rfl, b1, rv', b2, b3⟩
      · obtain ⟨b1, rv, b2, b3⟩ := h
        have hk' : k < s.length := by rw [cel_len] at hk; exact hk
        obtain ⟨d1, d2, d3⟩ := HCel.out k hk
        have hkr : k < rs.length := by rw [hrl]; exact hk'
        refine (rects1_any (cel n s)[k] k ((cel n s)[k].x + (cel n s)[k].k - 1) gap (((cel n s)[k].x + (cel n s)[k].k : Nat) : Int) xs ys r lb rb bb tb wb hb wc.heap.size lv rv tv wv hv (rs.take k) W (a6.below b1) b2 (a3.below b1) (a8.below b1) (a5.below b1) (a7.below b1) (a10.below b1) (a12.below b1) (a9.below b1) (a11.below b1) b3 b1.size (by rw [List.length_take]; omega) (by omega) d1 d2 d3 (by omega) (by have := HXb.out.2.2.1; omega) (by omega) hbX hbY (fun y hy => by have := HXb.out.1 y hy; omega)).mono ?_
        rintro e w' ⟨rfl, x, rv', g1, g2, rfl⟩
        have e1 : rs.take k ++ [rcG gap xs ys r (cel n s)[k]] = rs.take (k + 1) := by
          rw [List.take_succ_eq_append_getElem hkr]
          have : rs[k] = rcG gap xs ys r (cel n s)[k] := by
            have h := List.getElem_of_eq HRc.out hkr
            rw [h, List.getElem_map]
          rw [this]
        rw [e1] at g2
        have kx := b2.grown g1 (row_typ b3 b2 (by decide))
        have bx : Below wc.heap.size wc x := app_below b1 b3 (Nat.le_refl _) g1
        exact ⟨rfl, bx.setCell (p := ⟨rb, 0, none⟩) hrb _, rv', kx.put 0 _, g2.grown (grow_set x rb 0 rv') (.inr (row_typ g2 kx (by decide)))⟩
    have HCo : Hid (∀ v W, KS 4 fR W v rs → Calls Tryz.prog 32 #[v, .func (.func 33) #[] #[]] W fun e w' => e = .returned (.bool (!(rs.all mayQ))) ∧ Below W.heap.size W w') := fun v W h => contR_any rs v W h HRI.out (by rw [HRc.out, List.length_map, cel_len]; omega)
    have HB8 : Hid (Below w.heap.size w wc ∧ Bk wc pb #[.int .i64 (n : Nat), .slice va rl vc] 58) := ⟨HB7.out.2.1, HB7.out.2.2.2.1⟩
    clear HB7 hbX hbY HXb HCel HRI HRc hmb hmay
    obtain ⟨arr, har, hmk⟩ := make_rectsY s.length (by omega) wc
    have H9 : Hid (wc.heap.size ≤ wc.heap.size + 1 ∧ Below wc.heap.size wc ((wc.alloc (.cells arr 29)).alloc (.cells #[.slice (some ⟨wc.heap.size, 0, none⟩) 0 s.length] 37)) ∧ Bk ((wc.alloc (.cells arr 29)).alloc (.cells #[.slice (some ⟨wc.heap.size, 0, none⟩) 0 s.length] 37)) (wc.heap.size + 1) #[.slice (some ⟨wc.heap.size, 0, none⟩) 0 s.length] 37 ∧ OwK 29 4 fR wc.heap.size ((wc.alloc (.cells arr 29)).alloc (.cells #[.slice (some ⟨wc.heap.size, 0, none⟩) 0 s.length] 37)) (.slice (some ⟨wc.heap.size, 0, none⟩) 0 s.length) [] ∧ Bk ((wc.alloc (.cells arr 29)).alloc (.cells #[.slice (some ⟨wc.heap.size, 0, none⟩) 0 s.length] 37)) pb #[.int .i64 (n : Nat), .slice va rl vc] 58) := by
      have b1 : Below wc.heap.size wc ((wc.alloc (.cells arr 29)).alloc (.cells #[.slice (some ⟨wc.heap.size, 0, none⟩) 0 s.length] 37)) := ((Below.refl _ _).alloc (Nat.le_refl _) _).alloc (by simp) _
      exact ⟨by omega, b1, Bk.newB (by simp), own_made (Bk.alloc (Bk.newB rfl) _) har (Nat.le_refl _) (by unfold maxLen; omega), HB8.out.2.below b1⟩
    have p0 := HB8.out.2.at2.1
    have p1 := HB8.out.2.at2.2
    have lp := HB8.out.2.lt
    have HEx := HE.out _ _ _ H9.out.1 H9.out.2.1 H9.out.2.2.1 H9.out.2.2.2.1
    clear HE H9 har
    go_wp2_with fail
    refine HEx.mono ?_
    rintro e w8 ⟨rfl, H10⟩
    clear HEx p0 p1 lp hmk
    obtain ⟨b1, rv, b2, b3⟩ := H10.out
    have c0 : w8.cell? ⟨wc.heap.size + 1, 0, none⟩ = some rv := by rw [b2.cell]; rfl
    have HCx := HCo.out rv w8 (b3.ks encR)
    have HB9 : Hid (Below w.heap.size w w8 ∧ OwK 29 4 fR w.heap.size w8 rv rs ∧ Bk w8 (wc.heap.size + 1) #[rv] 37) := ⟨HB8.out.1.trans (b1.mono HB8.out.1.size), b3.weaken HB8.out.1.size, b2⟩
    obtain ⟨ro, rc, e1, _, _⟩ := row_val b3
    clear H10 HCo HB8 b1 b2 b3
    subst e1
    generalize wc.heap.size + 1 = rb at *
    cases hall : rs.all mayQ
    · rw [hall] at HCx
      rw [show rs.all (fun q => mayB q.x q.y q.w q.h) = false from hall, if_neg (by decide)] at hRE
      rw [hRE, if_neg (by decide)] at hRL
      subst hRE hRL
      clear hall
      go_wp2_with fail
      refine HCx.mono ?_
      rintro e w9 ⟨rfl, hb9⟩
      have HF : Hid (Below w.heap.size w w9) := HB9.out.1.trans (hb9.mono HB9.out.1.size)
      clear HCx hb9 HB9 c0
      go_wp2
      go_ret2
      exact ⟨_, rfl, OwK.nil _ _ _ _ _, HF.out⟩
    · rw [hall] at HCx
      rw [show rs.all (fun q => mayB q.x q.y q.w q.h) = true from hall, if_pos rfl] at hRE
      rw [hRE, if_pos rfl] at hRL
      subst hRE hRL
      clear hall
      go_wp2_with fail
      refine HCx.mono ?_
      rintro e w9 ⟨rfl, hb9⟩
      have HF : Hid (OwK 29 4 fR w.heap.size w9 (.slice ro RL.length rc) RL ∧ Below w.heap.size w w9) := ⟨HB9.out.2.1.below hb9, HB9.out.1.trans (hb9.mono HB9.out.1.size)⟩
      have c0' : w9.cell? ⟨rb, 0, none⟩ = some (.slice ro RL.length rc) := by rw [(HB9.out.2.2.below hb9).cell]; rfl
      clear HCx hb9 HB9 c0
      go_wp2
      go_ret2
      exact ⟨_, rfl, HF⟩
  · obtain ⟨h1, h2⟩ := HE.out h0
    have hne : (R != 0) = true := by simpa using h0
    clear HOK HE h0
    subst h1 h2
    go_wp2
    go_ret2
    exact ⟨_, rfl, OwK.nil _ _ _ _ _, HBw.out.1⟩

end Go.Proofs.YthnhcphkpffkfaaGreat
