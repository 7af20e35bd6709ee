/-
  GridApart: cells are apart and rows rise; where there is room enough all lie within, each as great as it must be, none over another one.
-/
import Derived.Test.YthnhcphkpffkfaaYY3
import Derived.Test.YthnhcphkpffkfaaYN
import Derived.Test.YthnhcphkpffkfaaYO
import Derived.Test.YthnhcphkpffkfaaI
namespace Go.Proofs.Ythnhcphkpffkfaa
open Go.RowKit
attribute [local go_sem] ite_maxK ite_minK

theorem over_noY {x y n m bx by' bw bh : Int} (h : emptyB x y n m = true ∨ emptyB bx by' bw bh = true ∨ x + n ≤ bx ∨ bx + bw ≤ x ∨ y + m ≤ by' ∨ by' + bh ≤ y) : overB x y n m bx by' bw bh = false := by
  have hm : meetR x y n m bx by' bw bh = zr := by
    unfold meetR
    cases h1 : emptyB x y n m
    · cases h2 : emptyB bx by' bw bh
      · obtain ⟨a1, a2, a3, a4, a5, a6, a7, a8, a9, a10⟩ := bounds_of h1
        obtain ⟨b1, b2, b3, b4, b5, b6, b7, b8, b9, b10⟩ := bounds_of h2
        rw [h1, h2] at h
        simp only [Bool.or_self, Bool.false_eq_true, if_false]
        refine btw_no ?_
        simp at h
        omega
      · simp
    · simp
  simp [overB, hm, eqB, zr]
/-- What GridApart asks of the rectangles, in plain words. -/
theorem apart_plain {s : List Int} {z : List Sz} {c gap : Int} {r : Rc} (h : neE s z c gap = 0) (hw : (neZ s z c gap).w ≤ r.w) (hh : (neZ s z c gap).h ≤ r.h) (hr : mayB r.x r.y r.w r.h = true) :
    rcE s z c gap r = 0 ∧ (rcL s z c gap r).length = z.length ∧
    (∀ i (h1 : i < (rcL s z c gap r).length) (h2 : i < z.length), z[i].w ≤ (rcL s z c gap r)[i].w ∧ z[i].h ≤ (rcL s z c gap r)[i].h ∧ r.x ≤ (rcL s z c gap r)[i].x ∧ r.y ≤ (rcL s z c gap r)[i].y ∧ (rcL s z c gap r)[i].x + (rcL s z c gap r)[i].w ≤ r.x + r.w ∧ (rcL s z c gap r)[i].y + (rcL s z c gap r)[i].h ≤ r.y + r.h ∧ 0 ≤ z[i].w ∧ 0 ≤ z[i].h) ∧
    (∀ k i (hk : k < i) (h1 : i < (rcL s z c gap r).length), overB (rcL s z c gap r)[i].x (rcL s z c gap r)[i].y (rcL s z c gap r)[i].w (rcL s z c gap r)[i].h ((rcL s z c gap r)[k]'(by omega)).x ((rcL s z c gap r)[k]'(by omega)).y ((rcL s z c gap r)[k]'(by omega)).w ((rcL s z c gap r)[k]'(by omega)).h = false) := by
  obtain ⟨m1, m2⟩ := may_iff.1 hr
  obtain ⟨e1, e2⟩ := rc_may h hw hh hr fun q a1 a2 a3 a4 a5 a6 => may_iff.2 ⟨⟨a1, by omega, by omega⟩, ⟨a2, by omega, by omega⟩⟩
  have hR := roo_of h hw hh
  have hg : gE1 s z c gap = 0 := by
    unfold neE at h
    split at h
    · next k => exact k
    · next k => exact absurd h k
  obtain ⟨_, _, hzb, _, _, hl, _⟩ := gE1_zero hg
  have hlen : (rcL s z c gap r).length = z.length := by
    rw [e2]
    unfold rcsG
    rw [List.length_map, cel_len]
    exact hl.symm
  refine ⟨e1, hlen, fun i h1 h2 => ?_, fun k i hk h1 => ?_⟩
  · have hc : i < (cel (clN c) s).length := by rw [cel_len]; omega
    have k := hR.one hc h2
    have hz := hzb z[i] (List.getElem_mem h2)
    have e : (rcL s z c gap r)[i] = rcG gap (colG (clN c) gap (cel (clN c) s) z r.w) (rowG gap (cel (clN c) s) z r.h) r (cel (clN c) s)[i] := by
      have := List.getElem_of_eq e2 h1
      rw [this]
      unfold rcsG
      rw [List.getElem_map]
    rw [e]
    exact ⟨k.1, k.2.1, k.2.2.1, k.2.2.2.1, k.2.2.2.2.1, k.2.2.2.2.2, hz.1.1, hz.2.1⟩
  · have hc : i < (cel (clN c) s).length := by rw [cel_len]; omega
    have q := hR.two hk hc
    have e : ∀ j (hj : j < (rcL s z c gap r).length), (rcL s z c gap r)[j] = rcG gap (colG (clN c) gap (cel (clN c) s) z r.w) (rowG gap (cel (clN c) s) z r.h) r ((cel (clN c) s)[j]'(by rw [cel_len]; omega)) := fun j hj => by
      have := List.getElem_of_eq e2 hj
      rw [this]
      unfold rcsG
      rw [List.getElem_map]
    rw [e i h1, e k (by omega)]
    refine over_noY ?_
    rcases q with q | q
    · exact .inr (.inr (.inr (.inl q)))
    · exact .inr (.inr (.inr (.inr (.inr q))))

set_option maxRecDepth 10000 in
set_option maxHeartbeats 8000000 in
theorem gapart_ok (s : List Int) (z : List Sz) (col gap : Int) (r : Rc) (so zo : Option Addr) (sc zc : Nat) (w : World) (hs : IS w (.slice so s.length sc) s) (hz : KS 2 fZ w (.slice zo z.length zc) z) (h1 : s.length ≤ 40) (h2 : z.length ≤ 40) (hrx : I64 r.x) (hry : I64 r.y) (hcE : ceE s col = 0) :
    Calls Try.prog 6 #[.slice so s.length sc, .slice zo z.length zc, .int .i64 col, .int .i64 gap, .agg #[.int .i64 r.x, .int .i64 r.y, .int .i64 r.w, .int .i64 r.h]] w fun e w' => e = .returned (.bool true) ∧ Below w.heap.size w w' := by
  have HAl : Hid (∀ W, Calls Try.prog 7 #[] W fun e w' => e = .returned (.bool true) ∧ Below W.heap.size W w') := alive_grid
  have hcz := fsC_zero (show fsC [eaC s 64, nuC col 64] = 0 from hcE)
  have hcol := nuC_zero (hcz (nuC col 64) (by simp))
  have hn64 := (clN_bd hcol).2
  have hn0 := clN_pos col
  have HV : Hid (IS w (.slice so s.length sc) s ∧ KS 2 fZ w (.slice zo z.length zc) z) := ⟨hs, hz⟩
  have A2 : Hid (∀ W, Below w.heap.size w W → Calls Try.prog 8 #[.slice so s.length sc, .int .i64 col] W fun e w' => ∃ u, e = .returned (.tuple #[u, .int .i64 0]) ∧ Hid (OwK 40 2 fP W.heap.size w' u (cel (clN col) s) ∧ Below W.heap.size W w')) := fun W h => by
    have := Cells_any s col _ W (hs.below h)
    rw [hcE] at this
    have e : ceL s col = cel (clN col) s := by unfold ceL; rw [if_pos hcE]
    rwa [e] at this
  have A3 : Hid (∀ x W, Calls Try.prog 21 #[.int .i64 x, .int .i64 col] W fun e w' => e = .returned (.int .i64 (wdN (clN col) x : Nat)) ∧ w' = W) := fun x W => wide_any x col W
  obtain ⟨nz, ne, rs, re, HE⟩ : ∃ nz ne rs re, Hid (nz = neZ s z col gap ∧ ne = neE s z col gap ∧ rs = rcL s z col gap r ∧ re = rcE s z col gap r) := ⟨_, _, _, _, rfl, rfl, rfl, rfl⟩
  have A4 : Hid (∀ W, Below w.heap.size w W → Calls Try.prog 10 #[.slice so s.length sc, .slice zo z.length zc, .int .i64 col, .int .i64 gap] W fun e w' => e = .returned (.tuple #[.agg #[.int .i64 nz.w, .int .i64 nz.h], .int .i64 ne]) ∧ Hid (Below W.heap.size W w')) := fun W h => by rw [HE.out.1, HE.out.2.1]; exact Need_any s z col gap _ _ W (hs.below h) (hz.below h)
  have A5 : Hid (∀ W, Below w.heap.size w W → Calls Try.prog 12 #[.slice so s.length sc, .slice zo z.length zc, .int .i64 col, .int .i64 gap, .agg #[.int .i64 r.x, .int .i64 r.y, .int .i64 r.w, .int .i64 r.h]] W fun e w' => ∃ u, e = .returned (.tuple #[u, .int .i64 re]) ∧ Hid (OwK 42 4 fR W.heap.size w' u rs ∧ Below W.heap.size W w')) := fun W h => by rw [HE.out.2.2.1, HE.out.2.2.2]; exact Rects_any s z col gap r _ _ W (hs.below h) (hz.below h) hrx hry
  have A6 : Hid (∀ W, Calls Try.prog 23 #[.agg #[.int .i64 r.x, .int .i64 r.y, .int .i64 r.w, .int .i64 r.h]] W fun e w' => e = .returned (.int .i64 (chk r.x r.y r.w r.h)) ∧ Below W.heap.size W w') := fun W => check_any _ _ _ _ W hrx hry
  have HPl : Hid (ne = 0 → nz.w ≤ r.w → nz.h ≤ r.h → mayB r.x r.y r.w r.h = true → re = 0 ∧ rs.length = z.length ∧ (∀ i (h1 : i < rs.length) (h2 : i < z.length), z[i].w ≤ rs[i].w ∧ z[i].h ≤ rs[i].h ∧ r.x ≤ rs[i].x ∧ r.y ≤ rs[i].y ∧ rs[i].x + rs[i].w ≤ r.x + r.w ∧ rs[i].y + rs[i].h ≤ r.y + r.h ∧ 0 ≤ z[i].w ∧ 0 ≤ z[i].h) ∧ (∀ k i (hk : k < i) (h1 : i < rs.length), overB rs[i].x rs[i].y rs[i].w rs[i].h (rs[k]'(by omega)).x (rs[k]'(by omega)).y (rs[k]'(by omega)).w (rs[k]'(by omega)).h = false)) := by
    obtain ⟨e1, e2, e3, e4⟩ := HE.out
    subst e1 e2 e3 e4
    exact fun a b c d => apart_plain a b c d
  have HSt : Hid (∀ p (h : p + 1 < s.length) (h0 : p < s.length) (hC0 : p < (cel (clN col) s).length) (hC : p + 1 < (cel (clN col) s).length), ((cel (clN col) s)[p + 1].y = ((cel (clN col) s)[p]'hC0).y ∧ (cel (clN col) s)[p + 1].x = ((cel (clN col) s)[p]'hC0).x + wdN (clN col) (s[p]'h0)) ∨ ((cel (clN col) s)[p + 1].y = ((cel (clN col) s)[p]'hC0).y + 1 ∧ (cel (clN col) s)[p + 1].x = 0 ∧ clN col < ((cel (clN col) s)[p]'hC0).x + wdN (clN col) (s[p]'h0) + wdN (clN col) s[p + 1])) := fun p h _ _ _ => cel_step s h
  have HCx : Hid (∀ i (h : i < (cel (clN col) s).length), (cel (clN col) s)[i].x ≤ 64 ∧ (cel (clN col) s)[i].y ≤ 64) := fun i h => by
    have := cel_in hn0 (List.getElem_mem h)
    omega
  have HWd : Hid (∀ x, wdN (clN col) x ≤ 64) := fun x => by have := wdN_bd hn0 x; omega
  have HMn : Hid (max col 1 = ((clN col : Nat) : Int)) := (clN_int col).symm
  have HCl : Hid ((cel (clN col) s).length = s.length) := cel_len _ _
  generalize clN col = n at *
  generalize cel n s = C at *
  clear hcE hcz hs hz HE
  have i1 : ¬ (40 : Int) < s.length := by omega
  have i2 : ¬ (40 : Int) < z.length := by omega
  have HB0 : Hid (Below w.heap.size w (w.alloc (.cells #[.int .i64 r.x, .int .i64 r.y, .int .i64 r.w, .int .i64 r.h] 42)) ∧ Bk (w.alloc (.cells #[.int .i64 r.x, .int .i64 r.y, .int .i64 r.w, .int .i64 r.h] 42)) w.heap.size #[.int .i64 r.x, .int .i64 r.y, .int .i64 r.w, .int .i64 r.h] 42) := ⟨(Below.refl _ _).alloc (Nat.le_refl _) _, Bk.new _ _ _⟩
  go_enter Try.func6, Try.ntmps6
  go_wp2_with fail
  refine (HAl.out _).mono ?_
  rintro e w1 ⟨rfl, hb⟩
  obtain ⟨bb, Hbb⟩ : ∃ bb, Hid (bb = w.heap.size) := ⟨_, rfl⟩
  have F1 : Hid (Below w.heap.size w w1 ∧ Bk w1 bb #[.int .i64 r.x, .int .i64 r.y, .int .i64 r.w, .int .i64 r.h] 42) := by rw [Hbb.out]; exact ⟨HB0.out.1.trans (hb.mono HB0.out.1.size), HB0.out.2.below hb⟩
  rw [← Hbb.out]
  clear hb HAl HB0 Hbb
  go_wp2_with fail
  refine (A2.out _ F1.out.1).mono ?_
  rintro e w3 ⟨cv, rfl, H3⟩
  have F3 : Hid (Below w.heap.size w w3 ∧ Bk w3 bb #[.int .i64 r.x, .int .i64 r.y, .int .i64 r.w, .int .i64 r.h] 42 ∧ KS 2 fP w3 cv C) := ⟨F1.out.1.trans (H3.out.2.mono F1.out.1.size), F1.out.2.below H3.out.2, H3.out.1.ks encP⟩
  clear A2 H3 F1
  obtain ⟨co, ccp, e1, _, cg⟩ := id F3.out.2.2
  rw [HCl.out] at e1
  subst e1
  clear cg
  go_wp2_with fail
  go_loopw [14, 15, 16] (fun i _ _ wr => ∃ p : Nat, i = .int .i64 ((p : Int) + 1) ∧ p ≤ s.length ∧ Hid (Below w3.heap.size w3 wr)) (fun i _ _ _ => s.length + 1 - (intOf i).toNat)
  case atStart => exact ⟨0, by go_num, Nat.zero_le _, Below.refl _ _⟩
  case round =>
    obtain ⟨p, rfl, hp, HP⟩ := hrel
    by_cases hlt : p + 1 < s.length
    · have ip : (p : Int) + 1 < s.length := by omega
      have hC0 : p < C.length := by rw [HCl.out]; omega
      have hC1 : p + 1 < C.length := by rw [HCl.out]; omega
      obtain ⟨so', sc', es, _, sg⟩ := HV.out.1.below F3.out.1
      injection es with e1 e2 e3
      clear e2
      subst e1 e3
      obtain ⟨sb, sf, rfl, sbl, sat⟩ := sg (by omega)
      obtain ⟨co', cc', ec, _, cg⟩ := F3.out.2.2
      injection ec with e1 e2 e3
      clear e2
      subst e1 e3
      obtain ⟨cb, cf, rfl, cbl, cat⟩ := cg (by omega)
      have x0 : Hid (w3.cell? ⟨sb, sf + p, none⟩ = some (.int .i64 s[p]) ∧ w3.cell? ⟨sb, sf + (p + 1), none⟩ = some (.int .i64 s[p + 1]) ∧ w3.cell? ⟨cb, cf + p * 2, none⟩ = some (.int .i64 (C[p].x : Nat)) ∧ w3.cell? ⟨cb, cf + p * 2 + 1, none⟩ = some (.int .i64 (C[p].y : Nat)) ∧ w3.cell? ⟨cb, cf + (p + 1) * 2, none⟩ = some (.int .i64 (C[p + 1].x : Nat)) ∧ w3.cell? ⟨cb, cf + (p + 1) * 2 + 1, none⟩ = some (.int .i64 (C[p + 1].y : Nat))) := ⟨sat p (by omega), sat (p + 1) hlt, cat p hC0 0 (by omega), cat p hC0 1 (by omega), cat (p + 1) hC1 0 (by omega), cat (p + 1) hC1 1 (by omega)⟩
      have Lt : Hid (sb < w3.heap.size ∧ cb < w3.heap.size) := ⟨sbl, cbl⟩
      have hst := HSt.out p hlt (by omega) hC0 hC1
      have hx0 := HCx.out p hC0
      have hx1 := HCx.out (p + 1) hC1
      have hk0 := HWd.out s[p]
      have hk1 := HWd.out s[p + 1]
      have A3a := A3.out s[p] wr
      have A3b : Hid (∀ W, Calls Try.prog 21 #[.int .i64 s[p + 1], .int .i64 col] W fun e w' => e = .returned (.int .i64 (wdN n s[p + 1] : Nat)) ∧ Below W.heap.size W w') := fun W => (A3.out s[p + 1] W).mono fun e w' ⟨a, b⟩ => ⟨a, b ▸ Below.refl _ _⟩
      clear sg sat cg cat
      generalize wdN n s[p] = k0 at *
      generalize wdN n s[p + 1] = k1 at *
      generalize C[p].x = ax at *
      generalize C[p].y = ay at *
      generalize C[p + 1].x = bx at *
      generalize C[p + 1].y = by' at *
      generalize s[p] = s0 at *
      generalize s[p + 1] = s1 at *
      have hw0 : IntKind.i64.wrap ((p : Int) + 1 - 1) = (p : Int) := by rw [IntKind.wrap_i64]; omega
      have ht1 : ((p : Int) + 1).toNat = p + 1 := by omega
      have ip0 : (p : Int) < s.length := by omega
      have y0 := (HP.out.cell (p := ⟨sb, sf + p, none⟩) Lt.out.1).trans x0.out.1
      go_wp2_with fail
      refine A3a.mono ?_
      rintro e w4 ⟨rfl, rfl⟩
      clear A3a y0
      go_upto_region 13 with fail
      rcases hst with ⟨q1, q2⟩ | ⟨q1, q2, q3⟩
      · subst q1 q2
        have hw1 : IntKind.i64.wrap ((ax : Int) + (k0 : Int)) = (ax : Int) + k0 := by rw [IntKind.wrap_i64]; omega
        refine R4.wp_region_lit 29 0 0 (fun _ _ => undef) (fun _ => .cells #[] 0) [] (by kernel_rfl) (by kernel_rfl) rfl (fun k hk => absurd hk (by omega)) rfl ?_
        apply Exists.intro
        refine ⟨fun bs ne => ?_, fun i h1 h2 => absurd h2 (by omega), ?_⟩
        · have bl : ∀ u : Gb w4 bs, Below w3.heap.size w3 u.wd := fun u => HP.out.trans (u.below.mono HP.out.size)
          have d2 := fun u : Gb w4 bs => ((bl u).cell (p := ⟨cb, cf + p * 2, none⟩) Lt.out.2).trans x0.out.2.2.1
          have d3 := fun u : Gb w4 bs => ((bl u).cell (p := ⟨cb, cf + p * 2 + 1, none⟩) Lt.out.2).trans x0.out.2.2.2.1
          have d4 := fun u : Gb w4 bs => ((bl u).cell (p := ⟨cb, cf + (p + 1) * 2, none⟩) Lt.out.2).trans x0.out.2.2.2.2.1
          have d5 := fun u : Gb w4 bs => ((bl u).cell (p := ⟨cb, cf + (p + 1) * 2 + 1, none⟩) Lt.out.2).trans x0.out.2.2.2.2.2
          clear bl
          simp only [List.take_succ_cons, List.take_zero]
          repeat (go_big_quiet_step (fail))
          exact wpQuiet_nil rfl
        intro bl wx hbl _ _
        simp only [R4.layL]
        refine wpAny_done (by kernel_rfl) ?_ _
        have HB2 : Hid (Below w3.heap.size w3 wx) := HP.out.trans (hbl.mono HP.out.size)
        clear hbl HP
        go_upto_region 14 with fail
        refine R4.wp_region_lit 45 0 0 (fun _ _ => undef) (fun _ => .cells #[] 0) [] (by kernel_rfl) (by kernel_rfl) rfl (fun k hk => absurd hk (by omega)) rfl ?_
        apply Exists.intro
        refine ⟨fun bs ne => ?_, fun i h1 h2 => absurd h2 (by omega), ?_⟩
        · simp only [List.take_succ_cons, List.take_zero]
          repeat (go_big_quiet_step (first
            | (go_at_call 21; exact gb_call (A3b.out _))))
          exact wpQuiet_nil rfl
        intro bl wy hbl _ _
        simp only [R4.layL]
        refine wpAny_done (by kernel_rfl) ?_ _
        have HB3 : Hid (Below w3.heap.size w3 wy) := HB2.out.trans (hbl.mono HB2.out.size)
        clear hbl HB2
        go_wp2
        exact ⟨⟨p + 1, by simp, by omega, HB3⟩, by simp [intOf]; omega⟩
      · subst q2
        have HQ : Hid (by' = ay + 1) := q1
        clear q1
        have e1 : ((by' : Int) == (ay : Int)) = false := beq_eq_false_iff_ne.2 (by have := HQ.out; omega)
        have e2 : (by' == ay) = false := beq_eq_false_iff_ne.2 (by have := HQ.out; omega)
        refine R4.wp_region_lit 29 0 0 (fun _ _ => undef) (fun _ => .cells #[] 0) [] (by kernel_rfl) (by kernel_rfl) rfl (fun k hk => absurd hk (by omega)) rfl ?_
        apply Exists.intro
        refine ⟨fun bs ne => ?_, fun i h1 h2 => absurd h2 (by omega), ?_⟩
        · have bl : ∀ u : Gb w4 bs, Below w3.heap.size w3 u.wd := fun u => HP.out.trans (u.below.mono HP.out.size)
          have d3 := fun u : Gb w4 bs => ((bl u).cell (p := ⟨cb, cf + p * 2 + 1, none⟩) Lt.out.2).trans x0.out.2.2.2.1
          have d5 := fun u : Gb w4 bs => ((bl u).cell (p := ⟨cb, cf + (p + 1) * 2 + 1, none⟩) Lt.out.2).trans x0.out.2.2.2.2.2
          clear bl
          simp only [List.take_succ_cons, List.take_zero]
          repeat (go_big_quiet_step (fail))
          exact wpQuiet_nil rfl
        intro bl wx hbl _ _
        simp only [R4.layL]
        refine wpAny_done (by kernel_rfl) ?_ _
        have HB2 : Hid (Below w3.heap.size w3 wx) := HP.out.trans (hbl.mono HP.out.size)
        clear hbl HP e1 e2
        go_upto_region 14 with fail
        have hw2 : IntKind.i64.wrap ((ay : Int) + 1) = (by' : Int) := by have := HQ.out; rw [IntKind.wrap_i64]; omega
        have hw3 : IntKind.i64.wrap ((ax : Int) + (k0 : Int)) = (ax : Int) + k0 := by rw [IntKind.wrap_i64]; omega
        have hw4 : IntKind.i64.wrap ((ax : Int) + (k0 : Int) + (k1 : Int)) = (ax : Int) + k0 + k1 := by rw [IntKind.wrap_i64]; omega
        have hMn : max col 1 = ((n : Nat) : Int) := HMn.out
        have d0 : decide ((ax : Int) + (k0 : Int) + (k1 : Int) ≤ (n : Int)) = false := decide_eq_false (by omega)
        clear q3
        refine R4.wp_region_lit 45 0 0 (fun _ _ => undef) (fun _ => .cells #[] 0) [] (by kernel_rfl) (by kernel_rfl) rfl (fun k hk => absurd hk (by omega)) rfl ?_
        apply Exists.intro
        refine ⟨fun bs ne => ?_, fun i h1 h2 => absurd h2 (by omega), ?_⟩
        · have bl : ∀ u : Gb wx bs, Below w3.heap.size w3 u.wd := fun u => HB2.out.trans (u.below.mono HB2.out.size)
          have d1 := fun u : Gb wx bs => ((bl u).cell (p := ⟨sb, sf + (p + 1), none⟩) Lt.out.1).trans x0.out.2.1
          have d2 := fun u : Gb wx bs => ((bl u).cell (p := ⟨cb, cf + p * 2, none⟩) Lt.out.2).trans x0.out.2.2.1
          have d3 := fun u : Gb wx bs => ((bl u).cell (p := ⟨cb, cf + p * 2 + 1, none⟩) Lt.out.2).trans x0.out.2.2.2.1
          have d4 := fun u : Gb wx bs => ((bl u).cell (p := ⟨cb, cf + (p + 1) * 2, none⟩) Lt.out.2).trans x0.out.2.2.2.2.1
          have d5 := fun u : Gb wx bs => ((bl u).cell (p := ⟨cb, cf + (p + 1) * 2 + 1, none⟩) Lt.out.2).trans x0.out.2.2.2.2.2
          clear bl
          simp only [List.take_succ_cons, List.take_zero]
          repeat (go_big_quiet_step (first
            | (go_at_call 21; exact gb_call (A3b.out _))))
          exact wpQuiet_nil rfl
        intro bl wy hbl _ _
        simp only [R4.layL]
        refine wpAny_done (by kernel_rfl) ?_ _
        have HB3 : Hid (Below w3.heap.size w3 wy) := HB2.out.trans (hbl.mono HB2.out.size)
        clear hbl HB2
        go_wp2
        exact ⟨⟨p + 1, by simp, by omega, HB3⟩, by simp [intOf]; omega⟩
    · have ip : ¬ (p : Int) + 1 < s.length := by omega
      have F4 : Hid (Below w.heap.size w wr ∧ Bk wr bb #[.int .i64 r.x, .int .i64 r.y, .int .i64 r.w, .int .i64 r.h] 42) := ⟨F3.out.1.trans (HP.out.mono F3.out.1.size), F3.out.2.1.below HP.out⟩
      clear HP F3 HSt HCx HWd HMn HCl A3
      go_wp2_with fail
      refine (A4.out _ F4.out.1).mono ?_
      rintro e w4 ⟨rfl, H4⟩
      have F5 : Hid (Below w.heap.size w w4 ∧ Bk w4 bb #[.int .i64 r.x, .int .i64 r.y, .int .i64 r.w, .int .i64 r.h] 42) := ⟨F4.out.1.trans (H4.out.mono F4.out.1.size), F4.out.2.below H4.out⟩
      clear F4 H4 A4 ip
      have B5 : Below w4.heap.size w4 (w4.alloc (.cells #[.int .i64 nz.w, .int .i64 nz.h] 31)) := (Below.refl _ _).alloc (Nat.le_refl _) _
      have F6 : Hid (Below w.heap.size w (w4.alloc (.cells #[.int .i64 nz.w, .int .i64 nz.h] 31)) ∧ Bk (w4.alloc (.cells #[.int .i64 nz.w, .int .i64 nz.h] 31)) bb #[.int .i64 r.x, .int .i64 r.y, .int .i64 r.w, .int .i64 r.h] 42 ∧ Bk (w4.alloc (.cells #[.int .i64 nz.w, .int .i64 nz.h] 31)) w4.heap.size #[.int .i64 nz.w, .int .i64 nz.h] 31) := ⟨F5.out.1.trans (B5.mono F5.out.1.size), F5.out.2.below B5, Bk.new _ _ _⟩
      have r0 : w4.cell? ⟨bb, 0, none⟩ = some (.int .i64 r.x) := by rw [F5.out.2.cell]; rfl
      have r1 : w4.cell? ⟨bb, 1, none⟩ = some (.int .i64 r.y) := by rw [F5.out.2.cell]; rfl
      have r2 : w4.cell? ⟨bb, 2, none⟩ = some (.int .i64 r.w) := by rw [F5.out.2.cell]; rfl
      have r3 : w4.cell? ⟨bb, 3, none⟩ = some (.int .i64 r.h) := by rw [F5.out.2.cell]; rfl
      have lbb := F5.out.2.lt
      clear B5
      go_wp2_with fail
      refine (A5.out _ F6.out.1).mono ?_
      rintro e w5 ⟨lv, rfl, H5⟩
      obtain ⟨nb, Hnb⟩ : ∃ nb, Hid (nb = w4.heap.size) := ⟨_, rfl⟩
      have F7 : Hid (Below w.heap.size w w5 ∧ Bk w5 bb #[.int .i64 r.x, .int .i64 r.y, .int .i64 r.w, .int .i64 r.h] 42 ∧ Bk w5 nb #[.int .i64 nz.w, .int .i64 nz.h] 31 ∧ KS 4 fR w5 lv rs) := by rw [Hnb.out]; exact ⟨F6.out.1.trans (H5.out.2.mono F6.out.1.size), F6.out.2.1.below H5.out.2, F6.out.2.2.below H5.out.2, H5.out.1.ks encR⟩
      rw [← Hnb.out]
      clear F5 F6 H5 A5 Hnb r0 r1 r2 r3 lbb
      have r0 : w5.cell? ⟨bb, 0, none⟩ = some (.int .i64 r.x) := by rw [F7.out.2.1.cell]; rfl
      have r1 : w5.cell? ⟨bb, 1, none⟩ = some (.int .i64 r.y) := by rw [F7.out.2.1.cell]; rfl
      have r2 : w5.cell? ⟨bb, 2, none⟩ = some (.int .i64 r.w) := by rw [F7.out.2.1.cell]; rfl
      have r3 : w5.cell? ⟨bb, 3, none⟩ = some (.int .i64 r.h) := by rw [F7.out.2.1.cell]; rfl
      have n0 := F7.out.2.2.1.at2.1
      have n1 := F7.out.2.2.1.at2.2
      obtain ⟨lo, lcp, el, _, lg⟩ := id F7.out.2.2.2
      subst el
      clear lg
      by_cases c0 : ne = 0
      · by_cases c1 : r.w < nz.w
        · have HF : Hid (Below w.heap.size w w5) := F7.out.1
          subst c0
          clear F7 HPl
          go_wp2
          go_ret
          exact ⟨rfl, HF.out⟩
        · by_cases c2 : r.h < nz.h
          · have HF : Hid (Below w.heap.size w w5) := F7.out.1
            subst c0
            clear F7 HPl
            go_wp2
            go_ret
            exact ⟨rfl, HF.out⟩
          · cases c3 : mayB r.x r.y r.w r.h
            · have A6' : Hid (∀ W, Calls Try.prog 23 #[.agg #[.int .i64 r.x, .int .i64 r.y, .int .i64 r.w, .int .i64 r.h]] W fun e w' => e = .returned (.int .i64 5) ∧ Below W.heap.size W w') := fun W => by
                have := A6.out W
                unfold chk at this
                rwa [c3, if_neg (by decide)] at this
              have HF : Hid (Below w.heap.size w w5) := F7.out.1
              subst c0
              clear F7 HPl c3 A6
              go_wp2_with fail
              refine (A6'.out _).mono ?_
              rintro e w6 ⟨rfl, hb⟩
              have HG : Hid (Below w.heap.size w w6) := HF.out.trans (hb.mono HF.out.size)
              clear hb
              go_wp2
              go_ret
              exact ⟨rfl, HG.out⟩
            · have A6' : Hid (∀ W, Calls Try.prog 23 #[.agg #[.int .i64 r.x, .int .i64 r.y, .int .i64 r.w, .int .i64 r.h]] W fun e w' => e = .returned (.int .i64 0) ∧ Below W.heap.size W w') := fun W => by
                have := A6.out W
                unfold chk at this
                rwa [c3, if_pos rfl] at this
              obtain ⟨p1, p2, p3, p4⟩ := HPl.out c0 (by omega) (by omega) c3
              subst c0 p1
              have hmb := may_bd c3
              have H34 : Hid ((∀ i (h1 : i < rs.length) (h2 : i < z.length), z[i].w ≤ rs[i].w ∧ z[i].h ≤ rs[i].h ∧ r.x ≤ rs[i].x ∧ r.y ≤ rs[i].y ∧ rs[i].x + rs[i].w ≤ r.x + r.w ∧ rs[i].y + rs[i].h ≤ r.y + r.h ∧ 0 ≤ z[i].w ∧ 0 ≤ z[i].h) ∧ (∀ k i (hk : k < i) (h1 : i < rs.length), overB rs[i].x rs[i].y rs[i].w rs[i].h (rs[k]'(by omega)).x (rs[k]'(by omega)).y (rs[k]'(by omega)).w (rs[k]'(by omega)).h = false)) := ⟨p3, p4⟩
              have H2 : Hid (rs.length = z.length) := p2
              have il : (rs.length : Int) = z.length := by omega
              clear HPl p2 p3 p4 A6 c3
              go_wp2_with fail
              refine (A6'.out _).mono ?_
              rintro e w6 ⟨rfl, hb⟩
              have F8 : Hid (Below w.heap.size w w6 ∧ Bk w6 bb #[.int .i64 r.x, .int .i64 r.y, .int .i64 r.w, .int .i64 r.h] 42 ∧ KS 4 fR w6 (.slice lo rs.length lcp) rs ∧ KS 2 fZ w6 (.slice zo z.length zc) z) := by
                have hb2 := F7.out.1.trans (hb.mono F7.out.1.size)
                exact ⟨hb2, F7.out.2.1.below hb, F7.out.2.2.2.below hb, HV.out.2.below hb2⟩
              clear hb F7 A6' r0 r1 r2 r3 n0 n1 HV
              go_wp2_with fail
              clear il
              go_loopw [20, 21] (fun i _ wr => ∃ j : Nat, j ≤ rs.length ∧ i = .int .i64 j ∧ Hid (Below w6.heap.size w6 wr)) (fun i _ _ => rs.length - (intOf i).toNat)
              case atStart => exact ⟨0, Nat.zero_le _, rfl, Below.refl _ _⟩
              case round =>
                obtain ⟨j, hj, rfl, HJ⟩ := hrel
                by_cases hjt : j < rs.length
                · have ij : (j : Int) < rs.length := by omega
                  have hjz : j < z.length := by rw [← H2.out]; exact hjt
                  have iz : (j : Int) < z.length := by omega
                  obtain ⟨q1, q2, q3, q4, q5, q6, q7, q8⟩ := H34.out.1 j hjt hjz
                  obtain ⟨lo', lc', el, _, lg⟩ := F8.out.2.2.1
                  injection el with e1 e2 e3
                  clear e2
                  subst e1 e3
                  obtain ⟨lb, lf, rfl, lbl, lat⟩ := lg (by omega)
                  obtain ⟨zo', zc', ez, _, zg⟩ := F8.out.2.2.2
                  injection ez with e1 e2 e3
                  clear e2
                  subst e1 e3
                  obtain ⟨zb, zf, rfl, zbl, zat⟩ := zg (by omega)
                  have HLa : Hid (∀ i (h : i < rs.length), w6.cell? ⟨lb, lf + i * 4, none⟩ = some (.int .i64 rs[i].x) ∧ w6.cell? ⟨lb, lf + i * 4 + 1, none⟩ = some (.int .i64 rs[i].y) ∧ w6.cell? ⟨lb, lf + i * 4 + 2, none⟩ = some (.int .i64 rs[i].w) ∧ w6.cell? ⟨lb, lf + i * 4 + 3, none⟩ = some (.int .i64 rs[i].h)) := fun i h => ⟨lat i h 0 (by omega), lat i h 1 (by omega), lat i h 2 (by omega), lat i h 3 (by omega)⟩
                  have Lt : Hid (lb < w6.heap.size) := lbl
                  have hb := HJ.out
                  have x0 := (hb.cell (p := ⟨lb, lf + j * 4, none⟩) lbl).trans (HLa.out j hjt).1
                  have x1 := (hb.cell (p := ⟨lb, lf + j * 4 + 1, none⟩) lbl).trans (HLa.out j hjt).2.1
                  have x2 := (hb.cell (p := ⟨lb, lf + j * 4 + 2, none⟩) lbl).trans (HLa.out j hjt).2.2.1
                  have x3 := (hb.cell (p := ⟨lb, lf + j * 4 + 3, none⟩) lbl).trans (HLa.out j hjt).2.2.2
                  have z0 : wr.cell? ⟨zb, zf + j * 2, none⟩ = some (.int .i64 z[j].w) := (hb.cell (p := ⟨zb, zf + j * 2, none⟩) zbl).trans (zat j hjz 0 (by omega))
                  have z1 : wr.cell? ⟨zb, zf + j * 2 + 1, none⟩ = some (.int .i64 z[j].h) := (hb.cell (p := ⟨zb, zf + j * 2 + 1, none⟩) zbl).trans (zat j hjz 1 (by omega))
                  have kb := F8.out.2.1.below hb
                  have r0 : wr.cell? ⟨bb, 0, none⟩ = some (.int .i64 r.x) := by rw [kb.cell]; rfl
                  have r1 : wr.cell? ⟨bb, 1, none⟩ = some (.int .i64 r.y) := by rw [kb.cell]; rfl
                  have r2 : wr.cell? ⟨bb, 2, none⟩ = some (.int .i64 r.w) := by rw [kb.cell]; rfl
                  have r3 : wr.cell? ⟨bb, 3, none⟩ = some (.int .i64 r.h) := by rw [kb.cell]; rfl
                  have HOv : Hid (∀ k (hk : k < j) (hk2 : k < rs.length) W, Calls Try.prog 24 #[.agg #[.int .i64 rs[j].x, .int .i64 rs[j].y, .int .i64 rs[j].w, .int .i64 rs[j].h], .agg #[.int .i64 rs[k].x, .int .i64 rs[k].y, .int .i64 rs[k].w, .int .i64 rs[k].h]] W fun e w' => e = .returned (.bool false) ∧ Below W.heap.size W w') := fun k hk hk2 W => by
                    have g := H34.out.1 k hk2 (by rw [← H2.out]; exact hk2)
                    have := over_any rs[j].x rs[j].y rs[j].w rs[j].h rs[k].x rs[k].y rs[k].w rs[k].h W (by unfold I64; omega) (by unfold I64; omega) (by unfold I64; omega) (by unfold I64; omega)
                    rwa [H34.out.2 k j hk hjt] at this
                  have HXj := HLa.out j hjt
                  have HX : Hid (w6.cell? ⟨lb, lf + j * 4, none⟩ = some (.int .i64 rs[j].x) ∧ w6.cell? ⟨lb, lf + j * 4 + 1, none⟩ = some (.int .i64 rs[j].y) ∧ w6.cell? ⟨lb, lf + j * 4 + 2, none⟩ = some (.int .i64 rs[j].w) ∧ w6.cell? ⟨lb, lf + j * 4 + 3, none⟩ = some (.int .i64 rs[j].h)) := HXj
                  clear lg lat zg zat kb HXj
                  generalize rs[j].x = ax at *
                  generalize rs[j].y = ay at *
                  generalize rs[j].w = aw at *
                  generalize rs[j].h = ah at *
                  generalize z[j].w = zw at *
                  generalize z[j].h = zh at *
                  obtain ⟨rx, ry, rw', rh⟩ := r
                  simp only at *
                  have hw1 : IntKind.i64.wrap (ax + aw) = ax + aw := by rw [IntKind.wrap_i64]; omega
                  have hw2 : IntKind.i64.wrap (ay + ah) = ay + ah := by rw [IntKind.wrap_i64]; omega
                  have hw3 : IntKind.i64.wrap (rx + rw') = rx + rw' := by rw [IntKind.wrap_i64]; omega
                  have hw4 : IntKind.i64.wrap (ry + rh) = ry + rh := by rw [IntKind.wrap_i64]; omega
                  have t1 : ¬ aw < zw := by omega
                  have t2 : ¬ ah < zh := by omega
                  have t3 : ¬ ax < rx := by omega
                  have t4 : ¬ ay < ry := by omega
                  have t5 : ¬ rx + rw' < ax + aw := by omega
                  have t6 : ¬ ry + rh < ay + ah := by omega
                  have l0 : lb < wr.heap.size := Nat.lt_of_lt_of_le lbl hb.size
                  have l1 : zb < wr.heap.size := Nat.lt_of_lt_of_le zbl hb.size
                  have l2 : bb < wr.heap.size := lt_of_cellK r0
                  clear hb q1 q2 q3 q4 q5 q6 q7 q8
                  go_upto_region 25 with fail
                  refine R4.wp_region_lit 96 0 0 (fun _ _ => undef) (fun _ => .cells #[] 0) [] (by kernel_rfl) (by kernel_rfl) rfl (fun k hk => absurd hk (by omega)) rfl ?_
                  apply Exists.intro
                  refine ⟨fun bs ne => ?_, fun i h1 h2 => absurd h2 (by omega), ?_⟩
                  · have e0 := fun u : Gb wr bs => (u.below.cell (p := ⟨lb, lf + j * 4, none⟩) l0).trans x0
                    have e1 := fun u : Gb wr bs => (u.below.cell (p := ⟨lb, lf + j * 4 + 1, none⟩) l0).trans x1
                    have e2 := fun u : Gb wr bs => (u.below.cell (p := ⟨lb, lf + j * 4 + 2, none⟩) l0).trans x2
                    have e3 := fun u : Gb wr bs => (u.below.cell (p := ⟨lb, lf + j * 4 + 3, none⟩) l0).trans x3
                    have e4 := fun u : Gb wr bs => (u.below.cell (p := ⟨zb, zf + j * 2, none⟩) l1).trans z0
                    have e5 := fun u : Gb wr bs => (u.below.cell (p := ⟨zb, zf + j * 2 + 1, none⟩) l1).trans z1
                    have e6 := fun u : Gb wr bs => (u.below.cell (p := ⟨bb, 0, none⟩) l2).trans r0
                    have e7 := fun u : Gb wr bs => (u.below.cell (p := ⟨bb, 1, none⟩) l2).trans r1
                    have e8 := fun u : Gb wr bs => (u.below.cell (p := ⟨bb, 2, none⟩) l2).trans r2
                    have e9 := fun u : Gb wr bs => (u.below.cell (p := ⟨bb, 3, none⟩) l2).trans r3
                    simp only [List.append_eq, List.cons_append, List.nil_append, List.take_succ_cons, List.take_zero]
                    repeat (go_big_quiet_step (fail))
                    exact wpQuiet_nil rfl
                  intro bl wx hbl _ _
                  simp only [R4.layL]
                  refine wpAny_done (by kernel_rfl) ?_ _
                  have HB2 : Hid (Below w6.heap.size w6 wx) := HJ.out.trans (hbl.mono HJ.out.size)
                  clear hbl HJ x0 x1 x2 x3 z0 z1 r0 r1 r2 r3 t1 t2 t3 t4 t5 t6 hw1 hw2 hw3 hw4 l0 l1 l2
                  go_wp2_with fail
                  go_loopw [21] (fun i wr => ∃ k : Nat, k ≤ j ∧ i = .int .i64 k ∧ Hid (Below w6.heap.size w6 wr)) (fun i _ => j - (intOf i).toNat)
                  case atStart => exact ⟨0, Nat.zero_le _, rfl, HB2.out⟩
                  case round =>
                    obtain ⟨k, hk, rfl, HK⟩ := hrel
                    clear HB2
                    by_cases hkt : k < j
                    · have ik : (k : Int) < j := by omega
                      have ikl : (k : Int) < rs.length := by omega
                      have HO := fun W => HOv.out k hkt (by omega) W
                      obtain ⟨y0, y1, y2, y3⟩ := HLa.out k (by omega)
                      have Y : Hid (w6.cell? ⟨lb, lf + k * 4, none⟩ = some (.int .i64 (rs[k]'(by omega)).x) ∧ w6.cell? ⟨lb, lf + k * 4 + 1, none⟩ = some (.int .i64 (rs[k]'(by omega)).y) ∧ w6.cell? ⟨lb, lf + k * 4 + 2, none⟩ = some (.int .i64 (rs[k]'(by omega)).w) ∧ w6.cell? ⟨lb, lf + k * 4 + 3, none⟩ = some (.int .i64 (rs[k]'(by omega)).h)) := ⟨y0, y1, y2, y3⟩
                      clear y0 y1 y2 y3
                      have HO2 : Hid (∀ W, Calls Try.prog 24 #[.agg #[.int .i64 ax, .int .i64 ay, .int .i64 aw, .int .i64 ah], .agg #[.int .i64 (rs[k]'(by omega)).x, .int .i64 (rs[k]'(by omega)).y, .int .i64 (rs[k]'(by omega)).w, .int .i64 (rs[k]'(by omega)).h]] W fun e w' => e = .returned (.bool false) ∧ Below W.heap.size W w') := HO
                      clear HO
                      generalize (rs[k]'(by omega)).x = bx at *
                      generalize (rs[k]'(by omega)).y = by' at *
                      generalize (rs[k]'(by omega)).w = bw at *
                      generalize (rs[k]'(by omega)).h = bh at *
                      go_upto_region 30 with fail
                      refine R4.wp_region_lit 9 0 0 (fun _ _ => undef) (fun _ => .cells #[] 0) [] (by kernel_rfl) (by kernel_rfl) rfl (fun k hk => absurd hk (by omega)) rfl ?_
                      apply Exists.intro
                      refine ⟨fun bs ne => ?_, fun i h1 h2 => absurd h2 (by omega), ?_⟩
                      · have bl : ∀ u : Gb wr bs, Below w6.heap.size w6 u.wd := fun u => HK.out.trans (u.below.mono HK.out.size)
                        have e0 := fun u : Gb wr bs => ((bl u).cell (p := ⟨lb, lf + j * 4, none⟩) Lt.out).trans HX.out.1
                        have e1 := fun u : Gb wr bs => ((bl u).cell (p := ⟨lb, lf + j * 4 + 1, none⟩) Lt.out).trans HX.out.2.1
                        have e2 := fun u : Gb wr bs => ((bl u).cell (p := ⟨lb, lf + j * 4 + 2, none⟩) Lt.out).trans HX.out.2.2.1
                        have e3 := fun u : Gb wr bs => ((bl u).cell (p := ⟨lb, lf + j * 4 + 3, none⟩) Lt.out).trans HX.out.2.2.2
                        have e4 := fun u : Gb wr bs => ((bl u).cell (p := ⟨lb, lf + k * 4, none⟩) Lt.out).trans Y.out.1
                        have e5 := fun u : Gb wr bs => ((bl u).cell (p := ⟨lb, lf + k * 4 + 1, none⟩) Lt.out).trans Y.out.2.1
                        have e6 := fun u : Gb wr bs => ((bl u).cell (p := ⟨lb, lf + k * 4 + 2, none⟩) Lt.out).trans Y.out.2.2.1
                        have e7 := fun u : Gb wr bs => ((bl u).cell (p := ⟨lb, lf + k * 4 + 3, none⟩) Lt.out).trans Y.out.2.2.2
                        clear bl
                        simp only [List.take_succ_cons, List.take_zero]
                        repeat (go_big_quiet_step (first
                          | (go_at_call 24; exact gb_call (HO2.out _))))
                        exact wpQuiet_nil rfl
                      intro bl wy hbl _ _
                      simp only [R4.layL]
                      refine wpAny_done (by kernel_rfl) ?_ _
                      have HB3 : Hid (Below w6.heap.size w6 wy) := HK.out.trans (hbl.mono HK.out.size)
                      clear hbl HK
                      go_wp2
                      exact ⟨⟨k + 1, by omega, by go_num, HB3⟩, by simp [intOf]; omega⟩
                    · obtain rfl : k = j := by omega
                      go_wp2
                      exact ⟨⟨k + 1, by omega, by go_num, HK⟩, by simp [intOf]; omega⟩
                · obtain rfl : j = rs.length := by omega
                  have HF : Hid (Below w.heap.size w wr) := F8.out.1.trans (HJ.out.mono F8.out.1.size)
                  clear HJ F8
                  go_wp2
                  go_ret
                  exact ⟨rfl, HF.out⟩
      · have hne : (ne != 0) = true := by simpa using c0
        have HF : Hid (Below w.heap.size w w5) := F7.out.1
        clear F7 HPl c0
        go_wp2
        go_ret
        exact ⟨rfl, HF.out⟩

set_option maxRecDepth 10000 in
set_option maxHeartbeats 8000000 in
theorem gapart_walk (s : List Int) (z : List Sz) (col gap : Int) (r : Rc) (sv zv : Value) (w : World) (hs : IS w sv s) (hz : KS 2 fZ w zv z) (hrx : I64 r.x) (hry : I64 r.y) :
    Calls Try.prog 6 #[sv, zv, .int .i64 col, .int .i64 gap, .agg #[.int .i64 r.x, .int .i64 r.y, .int .i64 r.w, .int .i64 r.h]] w fun e w' => e = .returned (.bool true) ∧ Below w.heap.size w w' := by
  have HAl : Hid (∀ W, Calls Try.prog 7 #[] W fun e w' => e = .returned (.bool true) ∧ Below W.heap.size W w') := alive_grid
  have HB0 : Hid (Below w.heap.size w (w.alloc (.cells #[.int .i64 r.x, .int .i64 r.y, .int .i64 r.w, .int .i64 r.h] 42))) := (Below.refl _ _).alloc (Nat.le_refl _) _
  obtain ⟨so, sc, e1, _, _⟩ := id hs
  obtain ⟨zo, zc, e2, _, _⟩ := id hz
  subst e1 e2
  by_cases h1 : 40 < s.length
  · have i1 : (40 : Int) < s.length := by omega
    clear hs hz
    go_enter Try.func6, Try.ntmps6
    go_wp2_with fail
    refine (HAl.out _).mono ?_
    rintro e w1 ⟨rfl, hb⟩
    have HB : Hid (Below w.heap.size w w1) := HB0.out.trans (hb.mono HB0.out.size)
    clear hb
    go_wp2
    go_ret
    exact ⟨rfl, HB.out⟩
  by_cases h2 : 40 < z.length
  · have i1 : ¬ (40 : Int) < s.length := by omega
    have i2 : (40 : Int) < z.length := by omega
    clear hs hz
    go_enter Try.func6, Try.ntmps6
    go_wp2_with fail
    refine (HAl.out _).mono ?_
    rintro e w1 ⟨rfl, hb⟩
    have HB : Hid (Below w.heap.size w w1) := HB0.out.trans (hb.mono HB0.out.size)
    clear hb
    go_wp2
    go_ret
    exact ⟨rfl, HB.out⟩
  by_cases hE : ceE s col = 0
  · exact gapart_ok s z col gap r so zo sc zc w hs hz (by omega) (by omega) hrx hry hE
  · have i1 : ¬ (40 : Int) < s.length := by omega
    have i2 : ¬ (40 : Int) < z.length := by omega
    have A2 : Hid (∀ W, Below w.heap.size w W → Calls Try.prog 8 #[.slice so s.length sc, .int .i64 col] W fun e w' => ∃ u, e = .returned (.tuple #[u, .int .i64 (ceE s col)]) ∧ Hid (OwK 40 2 fP W.heap.size w' u [] ∧ Below W.heap.size W w')) := fun W h => by
      have := Cells_any s col _ W (hs.below h)
      have e : ceL s col = [] := by unfold ceL; rw [if_neg hE]
      rwa [e] at this
    have hne : (ceE s col != 0) = true := by simpa using hE
    generalize ceE s col = ec at *
    clear hs hz hE
    go_enter Try.func6, Try.ntmps6
    go_wp2_with fail
    refine (HAl.out _).mono ?_
    rintro e w1 ⟨rfl, hb⟩
    have F1 : Hid (Below w.heap.size w w1) := HB0.out.trans (hb.mono HB0.out.size)
    clear hb HAl
    go_wp2_with fail
    refine (A2.out _ F1.out).mono ?_
    rintro e w3 ⟨cv, rfl, H3⟩
    have F3 : Hid (Below w.heap.size w w3) := F1.out.trans (H3.out.2.mono F1.out.size)
    obtain ⟨co, cc, e1, _, _⟩ := H3.out.1.ks encP
    subst e1
    clear A2 H3 F1
    go_wp2
    go_ret
    exact ⟨rfl, F3.out⟩

end Go.Proofs.Ythnhcphkpffkfaa
