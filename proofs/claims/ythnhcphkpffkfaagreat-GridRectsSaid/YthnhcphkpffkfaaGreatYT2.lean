/-
  The document's grid: Rects, where all may be. (yt2gen.py writes it.)
-/
import Derived.Test.YthnhcphkpffkfaaGreatYT
import Derived.Test.YthnhcphkpffkfaaGreatYZ
import Derived.Test.YthnhcphkpffkfaaGreatXS
namespace Go.Proofs.YthnhcphkpffkfaaGreat
open Go.RowKit

def JT1 (w5 : World) (po qo : Option Addr) (pc qc wg wo n ac ud bb : Nat) (gap rx ry rw' rh : Int) (s AL xs : List Int) (b : Nat → Bool) (u18 u19 u20 u66 u67 u68 u69 u70 u71 u72 u73 u74 u75 u76 u77 u78 u79 u80 : Value) (x : World) : Prop :=
  (b 0 = true → u67 = .slice (some ⟨wg, wo, none⟩) n ac) ∧
  (b 1 = true → u68 = .slice po s.length pc) ∧
  (b 2 = true → u69 = .slice qo s.length qc) ∧
  (b 3 = true → u70 = .int .i64 (ud : Nat)) ∧
  (b 4 = true → u71 = .slice (some ⟨wg, wo, none⟩) ud ac) ∧
  (b 5 = true → TS x u72 ((AL.take ud).map trk)) ∧
  (b 6 = true → u73 = .int .i64 gap) ∧
  (b 7 = true → u74 = .pointer (some ⟨bb, 2, none⟩)) ∧
  (b 8 = true → u75 = .pointer (some ⟨bb, 2, none⟩)) ∧
  (b 9 = true → u76 = .int .i64 rw') ∧
  (b 10 = true → ∃ v u, u77 = .tuple #[v, u, .int .i64 0] ∧ IS x v xs ∧ IS x u (bgs gap 0 xs)) ∧
  (b 11 = true → b 10 = true ∧ u66 = u77) ∧
  (b 12 = true → b 10 = true ∧ u78 = tup0 u77) ∧
  (b 13 = true → b 10 = true ∧ u79 = tup1 u77) ∧
  (b 14 = true → u80 = .int .i64 0) ∧
  (b 15 = true → b 12 = true ∧ u18 = u78) ∧
  (b 16 = true → b 13 = true ∧ u19 = u79) ∧
  (b 17 = true → u20 = .int .i64 0) ∧
  Below w5.heap.size w5 x ∧
  Bk x bb #[.int .i64 rx, .int .i64 ry, .int .i64 rw', .int .i64 rh] 29
theorem JT1.grow {w5 : World} {po qo : Option Addr} {pc qc wg wo n ac ud bb : Nat} {gap rx ry rw' rh : Int} {s AL xs : List Int} {b : Nat → Bool} {u18 u19 u20 u66 u67 u68 u69 u70 u71 u72 u73 u74 u75 u76 u77 u78 u79 u80 : Value} {x x' : World} (h : JT1 w5 po qo pc qc wg wo n ac ud bb gap rx ry rw' rh s AL xs b u18 u19 u20 u66 u67 u68 u69 u70 u71 u72 u73 u74 u75 u76 u77 u78 u79 u80 x) (hb : Below x.heap.size x x') : JT1 w5 po qo pc qc wg wo n ac ud bb gap rx ry rw' rh s AL xs b u18 u19 u20 u66 u67 u68 u69 u70 u71 u72 u73 u74 u75 u76 u77 u78 u79 u80 x' := by
  obtain ⟨j0, j1, j2, j3, j4, j5, j6, j7, j8, j9, j10, j11, j12, j13, j14, j15, j16, j17, e0, e1⟩ := h
  exact ⟨j0, j1, j2, j3, j4, (fun h => TS.belowY (j5 h) hb), j6, j7, j8, j9, (fun h => by obtain ⟨v, u, e, h1, h2⟩ := j10 h; exact ⟨v, u, e, h1.below hb, h2.below hb⟩), j11, j12, j13, j14, j15, j16, j17, e0.trans (hb.mono e0.size), e1.below hb⟩
def JT2 (w5 : World) (so hgo : Option Addr) (sc hc bb : Nat) (col gap rx ry rw' rh : Int) (s : List Int) (z : List Sz) (l2 ys : List Int) (b : Nat → Bool) (u21 u22 u23 u81 u82 u83 u84 u85 u86 u87 u88 u89 u90 u91 u92 u93 u94 : Value) (x : World) : Prop :=
  (b 0 = true → u82 = .slice so s.length sc) ∧
  (b 1 = true → u83 = .slice hgo z.length hc) ∧
  (b 2 = true → u84 = .int .i64 col) ∧
  (b 3 = true → IS x u85 l2) ∧
  (b 4 = true → TS x u86 (l2.map trk)) ∧
  (b 5 = true → u87 = .int .i64 gap) ∧
  (b 6 = true → u88 = .pointer (some ⟨bb, 2, none⟩)) ∧
  (b 7 = true → u89 = .pointer (some ⟨bb, 3, none⟩)) ∧
  (b 8 = true → u90 = .int .i64 rh) ∧
  (b 9 = true → ∃ v u, u91 = .tuple #[v, u, .int .i64 0] ∧ IS x v ys ∧ IS x u (bgs gap 0 ys)) ∧
  (b 10 = true → b 9 = true ∧ u81 = u91) ∧
  (b 11 = true → b 9 = true ∧ u92 = tup0 u91) ∧
  (b 12 = true → b 9 = true ∧ u93 = tup1 u91) ∧
  (b 13 = true → u94 = .int .i64 0) ∧
  (b 14 = true → b 11 = true ∧ u21 = u92) ∧
  (b 15 = true → b 12 = true ∧ u22 = u93) ∧
  (b 16 = true → u23 = .int .i64 0) ∧
  Below w5.heap.size w5 x ∧
  Bk x bb #[.int .i64 rx, .int .i64 ry, .int .i64 rw', .int .i64 rh] 29
theorem JT2.grow {w5 : World} {so hgo : Option Addr} {sc hc bb : Nat} {col gap rx ry rw' rh : Int} {s : List Int} {z : List Sz} {l2 ys : List Int} {b : Nat → Bool} {u21 u22 u23 u81 u82 u83 u84 u85 u86 u87 u88 u89 u90 u91 u92 u93 u94 : Value} {x x' : World} (h : JT2 w5 so hgo sc hc bb col gap rx ry rw' rh s z l2 ys b u21 u22 u23 u81 u82 u83 u84 u85 u86 u87 u88 u89 u90 u91 u92 u93 u94 x) (hb : Below x.heap.size x x') : JT2 w5 so hgo sc hc bb col gap rx ry rw' rh s z l2 ys b u21 u22 u23 u81 u82 u83 u84 u85 u86 u87 u88 u89 u90 u91 u92 u93 u94 x' := by
  obtain ⟨j0, j1, j2, j3, j4, j5, j6, j7, j8, j9, j10, j11, j12, j13, j14, j15, j16, e0, e1⟩ := h
  exact ⟨j0, j1, j2, (fun h => (j3 h).below hb), (fun h => TS.belowY (j4 h) hb), j5, j6, j7, j8, (fun h => by obtain ⟨v, u, e, h1, h2⟩ := j9 h; exact ⟨v, u, e, h1.below hb, h2.below hb⟩), j10, j11, j12, j13, j14, j15, j16, e0.trans (hb.mono e0.size), e1.below hb⟩

set_option maxRecDepth 10000 in
set_option maxHeartbeats 8000000 in
theorem rRects_good (s : List Int) (z : List Sz) (col gap : Int) (r : Rc) (sv zv : Value) (w : World) (hs : IS w sv s) (hz : KS 2 fZ w zv z) (h1 : rE1 s z col gap r = 0) :
    Calls Tryz.prog 11 #[sv, zv, .int .i64 col, .int .i64 gap, .agg #[.int .i64 r.x, .int .i64 r.y, .int .i64 r.w, .int .i64 r.h]] w fun e w' => ∃ u, e = .returned (.tuple #[u, .int .i64 (rcE s z col gap r)]) ∧ Hid (OwK 29 4 fR w.heap.size w' u (rcL s z col gap r) ∧ Below w.heap.size w w') := by
  have HV : Hid (IS w sv s ∧ KS 2 fZ w zv z) := ⟨hs, hz⟩
  obtain ⟨so, sc, rfl, _, _⟩ := hs
  obtain ⟨zo, zc, rfl, _, _⟩ := hz
  have H1 : Hid (∀ W, IS W (.slice so s.length sc) s → Calls Tryz.prog 35 #[.slice so s.length sc, .int .i64 64] W fun e w' => e = .returned (.int .i64 (eaC s 64)) ∧ Below W.heap.size W w') := fun W h => (reach_any s 64 _ W h).mono fun e w' ⟨a, b⟩ => ⟨a, b ▸ Below.refl _ _⟩
  have H1m : Hid (∀ W, KS 2 fZ W (.slice zo z.length zc) z → Calls Tryz.prog 36 #[.slice zo z.length zc] W fun e w' => e = .returned (.int .i64 (szC z)) ∧ Below W.heap.size W w') := fun W h => rsized_any z _ W h
  have H2 : Hid (∀ W, Calls Tryz.prog 37 #[.int .i64 col, .int .i64 64] W fun e w' => e = .returned (.int .i64 (nuC col 64)) ∧ Below W.heap.size W w') := fun W => (rnum_any col 64 W).mono fun e w' ⟨a, b⟩ => ⟨a, b ▸ Below.refl _ _⟩
  have H3 : Hid (∀ W, Calls Tryz.prog 37 #[.int .i64 gap, .int .i64 16384] W fun e w' => e = .returned (.int .i64 (nuC gap 16384)) ∧ Below W.heap.size W w') := fun W => (rnum_any gap 16384 W).mono fun e w' ⟨a, b⟩ => ⟨a, b ▸ Below.refl _ _⟩
  have H4 : Hid (∀ W, Calls Tryz.prog 44 #[.agg #[.int .i64 r.x, .int .i64 r.y, .int .i64 r.w, .int .i64 r.h]] W fun e w' => e = .returned (.int .i64 (chk r.x r.y r.w r.h)) ∧ Below W.heap.size W w') := fun W => rcheck_any _ _ _ _ W
  have HFi : Hid (∀ x W, IS W x [eaC s 64, szC z, nuC col 64, nuC gap 16384, chk r.x r.y r.w r.h] → Calls Tryz.prog 34 #[x] W fun e w' => e = .returned (.int .i64 (rE0 s z col gap r)) ∧ w' = W) := fun x W h => rfirst_any _ x W h (by simp)
  have HE1 : Hid ((rE0 s z col gap r = 0 → rE1 s z col gap r = if z.length = s.length then 0 else 110) ∧ (rE0 s z col gap r ≠ 0 → rE1 s z col gap r = rE0 s z col gap r)) := by
    unfold rE1
    exact ⟨fun h => if_pos h, fun h => if_neg h⟩
  obtain ⟨hg1, hmay⟩ := rE1_zero h1
  have hR0 : rE0 s z col gap r = 0 := by
    cases Decidable.em (rE0 s z col gap r = 0) with
    | inl h => exact h
    | inr h => rw [HE1.out.2 h] at h1; exact absurd h1 h
  rw [hR0] at HFi
  have hRE : rcE s z col gap r = (if (rcsG (clN col) gap (cel (clN col) s) z r).all (fun q => mayB q.x q.y q.w q.h) = true then 0 else 9) := by unfold rcE; rw [if_pos h1]
  have hRL : rcL s z col gap r = if rcE s z col gap r = 0 then rcsG (clN col) gap (cel (clN col) s) z r else [] := rfl
  clear HE1 hR0 h1
  obtain ⟨hl1, -, hzb, hcol, hgap, hlz, hwi, hhe⟩ := gE1_zero hg1
  have hGr := gri_of hwi
  have hn64 := (clN_bd hcol).2
  have hn0 := clN_pos col
  have hmb := may_bd hmay
  have hcl := col_len hGr
  have hco := col_ok hGr
  have hho := hgt_len hhe
  have hud : usd (cel (clN col) s) ≤ clN col := usd_le fun c hc => (hGr.cel c hc).1
  have HSi : Hid (∀ v W, KS 2 fZ W v z → Calls Tryz.prog 38 #[v] W fun e w' => ∃ u q, e = .returned (.tuple #[u, q]) ∧ Hid (OwI W.heap.size w' u (z.map (·.w)) ∧ OwI W.heap.size w' q (z.map (·.h)) ∧ Below W.heap.size W w')) := fun v W h => rsides_any z v W h (by omega)
  have HCe : Hid (∀ v W, IS W v s → Calls Tryz.prog 39 #[v, .int .i64 col] W fun e w' => ∃ u q, e = .returned (.tuple #[u, q]) ∧ Hid (OwK 25 2 fP W.heap.size w' u (cel (clN col) s) ∧ OwI W.heap.size w' q (wdL (cel (clN col) s)) ∧ Below W.heap.size W w')) := fun v W h => rcells_any s col v W h hl1 hcol
  have HHe : Hid (∀ v q W, IS W v s → IS W q (z.map (·.h)) → Calls Tryz.prog 40 #[v, q, .int .i64 col] W fun e w' => ∃ u, e = .returned u ∧ Hid (OwI W.heap.size w' u (hgt (cel (clN col) s) (z.map (·.h))) ∧ Below W.heap.size W w')) := fun v q W a b => rheights_any s _ col v q W a b hhe
  have HWi : Hid (∀ v q W, IS W v s → IS W q (z.map (·.w)) → Calls Tryz.prog 42 #[v, q, .int .i64 col, .int .i64 gap] W fun e w' => ∃ u, e = .returned u ∧ Hid (OwI W.heap.size w' u (wsG (clN col) gap (cel (clN col) s) (z.map (·.w))) ∧ Below W.heap.size W w')) := fun v q W a b => rwidths_any s _ col gap v q W a b hwi
  have HUs : Hid (∀ v q W, KS 2 fP W v (cel (clN col) s) → IS W q (wdL (cel (clN col) s)) → Calls Tryz.prog 43 #[v, q] W fun e w' => e = .returned (.int .i64 (usd (cel (clN col) s))) ∧ Below W.heap.size W w') := fun v q W a b => rused_any _ (clN col) v q W a b (by rw [cel_len]; exact hl1) (fun c hc => (hGr.cel c hc).1) hn64
  have HTr : ∀ (l : List Int), l.length ≤ 1024 → ∀ v W, IS W v l → Calls Tryz.prog 46 #[v] W fun e w' => ∃ u, e = .returned u ∧ Hid (TS w' u (l.map trk) ∧ Below W.heap.size W w') := fun l h v W k => by
    refine (rtracks_any l v W k h).mono ?_
    rintro e w' ⟨u, rfl, H⟩
    exact ⟨u, rfl, (H.out.1.ks encT).ts, H.out.2⟩
  have HRw : ∀ (l : List Int) (room : Int), (∀ x ∈ l, 0 ≤ x ∧ x ≤ 16384) → l.length ≤ 1024 → (0 ≤ room ∧ room ≤ 32768) → ∀ tv W, TS W tv (l.map trk) → Calls Tryz.prog 45 #[tv, .int .i64 gap, .int .i64 room] W fun e w' => ∃ v u, e = .returned (.tuple #[v, u, .int .i64 0]) ∧ Hid (IS w' v (roL l gap room) ∧ IS w' u (bgs gap 0 (roL l gap room)) ∧ Below W.heap.size W w') := fun l room h1 h2 h3 tv W hT => by
    obtain ⟨e1, e2⟩ := rwL_trk h1 h2 hgap h3
    refine (rRow_any (l.map trk) gap room tv W hT).mono ?_
    rintro e w' ⟨v, u, rfl, H⟩
    have h4 := H.out
    unfold rwS at h4
    rw [e1] at h4
    rw [e2]
    exact ⟨v, u, rfl, h4.1.is, h4.2.1.is, h4.2.2⟩
  have HR1 : Hid (∀ tv W, TS W tv (((wsG (clN col) gap (cel (clN col) s) (z.map (·.w))).take (usd (cel (clN col) s))).map trk) → Calls Tryz.prog 45 #[tv, .int .i64 gap, .int .i64 r.w] W fun e w' => ∃ v u, e = .returned (.tuple #[v, u, .int .i64 0]) ∧ Hid (IS w' v (colG (clN col) gap (cel (clN col) s) z r.w) ∧ IS w' u (bgs gap 0 (colG (clN col) gap (cel (clN col) s) z r.w)) ∧ Below W.heap.size W w')) := fun tv W h => HRw _ r.w hco (by rw [hcl]; omega) (by omega) tv W h
  have HR2 : Hid (∀ tv W, TS W tv ((hgt (cel (clN col) s) (z.map (·.h))).map trk) → Calls Tryz.prog 45 #[tv, .int .i64 gap, .int .i64 r.h] W fun e w' => ∃ v u, e = .returned (.tuple #[v, u, .int .i64 0]) ∧ Hid (IS w' v (rowG gap (cel (clN col) s) z r.h) ∧ IS w' u (bgs gap 0 (rowG gap (cel (clN col) s) z r.h)) ∧ Below W.heap.size W w')) := fun tv W h => HRw _ r.h hho.2 hho.1 (by omega) tv W h
  have HT1 : Hid (∀ v W, IS W v ((wsG (clN col) gap (cel (clN col) s) (z.map (·.w))).take (usd (cel (clN col) s))) → Calls Tryz.prog 46 #[v] W fun e w' => ∃ u, e = .returned u ∧ Hid (TS w' u (((wsG (clN col) gap (cel (clN col) s) (z.map (·.w))).take (usd (cel (clN col) s))).map trk) ∧ Below W.heap.size W w')) := HTr _ (by rw [hcl]; omega)
  have HT2 : Hid (∀ v W, IS W v (hgt (cel (clN col) s) (z.map (·.h))) → Calls Tryz.prog 46 #[v] W fun e w' => ∃ u, e = .returned u ∧ Hid (TS w' u ((hgt (cel (clN col) s) (z.map (·.h))).map trk) ∧ Below W.heap.size W w')) := HTr _ hho.1
  have HCel : Hid (∀ k (hk : k < (cel (clN col) s).length), (cel (clN col) s)[k].x + (cel (clN col) s)[k].k ≤ (colG (clN col) gap (cel (clN col) s) z r.w).length ∧ 1 ≤ (cel (clN col) s)[k].k ∧ (cel (clN col) s)[k].y < (rowG gap (cel (clN col) s) z r.h).length) := fun k hk => by
    have hc := hGr.cel (cel (clN col) s)[k] (List.getElem_mem hk)
    refine ⟨?_, hc.2, ?_⟩
    · unfold colG
      rw [roL_len hco, hcl]
      exact usd_ge (List.getElem_mem hk)
    · unfold rowG
      rw [roL_len hho.2]
      have hkl : k < s.length := by rw [cel_len] at hk; exact hk
      exact ((hgt_all hn0 (l := s) (ms := z.map (·.h)) (by rw [List.length_map]; omega) (fun m hm => by obtain ⟨q, hq, rfl⟩ := List.mem_map.1 hm; exact (hzb q hq).2)).2.2 k hkl).2
  have HXb : Hid ((∀ x ∈ colG (clN col) gap (cel (clN col) s) z r.w, 0 ≤ x ∧ x ≤ 16777216) ∧ (∀ x ∈ rowG gap (cel (clN col) s) z r.h, 0 ≤ x ∧ x ≤ 16777216) ∧ (colG (clN col) gap (cel (clN col) s) z r.w).length ≤ 1024 ∧ (rowG gap (cel (clN col) s) z r.h).length ≤ 1024) := by
    have hrm : ∀ (T : List Tk) (room : Int), 0 ≤ room → rwM T gap room ≤ room := fun T room h => by
      unfold rwM
      have : 0 ≤ gap * max ((T.length : Int) - 1) 0 := Int.mul_nonneg hgap.1 (by omega)
      omega
    refine ⟨shaR_bd (trk_ok hco) (by rw [List.length_map, hcl]; omega) (Int.le_trans (hrm _ _ (by omega)) (by omega)), shaR_bd (trk_ok hho.2) (by rw [List.length_map]; exact hho.1) (Int.le_trans (hrm _ _ (by omega)) (by omega)), ?_, ?_⟩
    · unfold colG; rw [roL_len hco, hcl]; omega
    · unfold rowG; rw [roL_len hho.2]; exact hho.1
  have HRc : Hid (rcsG (clN col) gap (cel (clN col) s) z r = (cel (clN col) s).map (rcG gap (colG (clN col) gap (cel (clN col) s) z r.w) (rowG gap (cel (clN col) s) z r.h) r)) := rfl
  have HWl : Hid ((wsG (clN col) gap (cel (clN col) s) (z.map (·.w))).length = clN col) := wsG_len _ _ _ _
  have HCl : Hid ((cel (clN col) s).length = s.length) := cel_len _ _
  have il : (z.length : Int) = s.length := by omega
  clear hGr hcl hco hho hwi hhe hzb hg1 HRw HTr hlz
  generalize clN col = n at *
  generalize colG n gap (cel n s) z r.w = xs at *
  generalize rowG gap (cel n s) z r.h = ys at *
  generalize usd (cel n s) = ud at *
  generalize hAL : wsG n gap (cel n s) (z.map (·.w)) = AL at *
  generalize hgt (cel n s) (z.map (·.h)) = l2 at *
  generalize hrl : rcsG n gap (cel n s) z r = rs at *
  generalize cel n s = C at *
  clear hrl hAL
  generalize rcE s z col gap r = RE at *
  generalize rcL s z col gap r = RL at *
  generalize eaC s 64 = r1 at *
  generalize szC z = r4 at *
  generalize nuC col 64 = r2 at *
  generalize nuC gap 16384 = r3 at *
  generalize chk r.x r.y r.w r.h = r5 at *
  obtain ⟨rx, ry, rw', rh⟩ := r
  simp only at *
  go_enter Tryz.func11, Tryz.ntmps11
  go_upto_region 1 with fail
  have HB0 : Hid (Below w.heap.size w (w.alloc (.cells #[.int .i64 rx, .int .i64 ry, .int .i64 rw', .int .i64 rh] 29)) ∧ Bk (w.alloc (.cells #[.int .i64 rx, .int .i64 ry, .int .i64 rw', .int .i64 rh] 29)) w.heap.size #[.int .i64 rx, .int .i64 ry, .int .i64 rw', .int .i64 rh] 29) := ⟨(Below.refl _ _).alloc (Nat.le_refl _) _, Bk.new _ _ _⟩
  obtain ⟨W1, HW1⟩ : ∃ W1, Hid (w.alloc (.cells #[.int .i64 rx, .int .i64 ry, .int .i64 rw', .int .i64 rh] 29) = W1) := ⟨_, rfl⟩
  rw [HW1.out] at HB0 ⊢
  refine R4.wp_region_lit 10 1 2 (fun _ b => .slice (some ⟨b, 0, none⟩) 5 5) (fun _ => .cells #[.int .i64 r1, .int .i64 r4, .int .i64 r2, .int .i64 r3, .int .i64 r5] 34) [40] (by kernel_rfl) (by kernel_rfl) rfl ?_ rfl ?_
  · intro k hk
    have hc : k = 0 := by omega
    subst hc; rfl
  apply Exists.intro
  refine ⟨fun bs ne => ?_, ?_, ?_⟩
  · have q0 := fun t : Gb W1 bs => (show t.wd.cell? ⟨w.heap.size, 0, none⟩ = some (.int .i64 rx) by rw [(HB0.out.2.below t.below).cell]; rfl)
    have q1 := fun t : Gb W1 bs => (show t.wd.cell? ⟨w.heap.size, 1, none⟩ = some (.int .i64 ry) by rw [(HB0.out.2.below t.below).cell]; rfl)
    have q2 := fun t : Gb W1 bs => (show t.wd.cell? ⟨w.heap.size, 2, none⟩ = some (.int .i64 rw') by rw [(HB0.out.2.below t.below).cell]; rfl)
    have q3 := fun t : Gb W1 bs => (show t.wd.cell? ⟨w.heap.size, 3, none⟩ = some (.int .i64 rh) by rw [(HB0.out.2.below t.below).cell]; rfl)
    have HV1 : Hid (∀ t : Gb W1 bs, IS t.wd (.slice so s.length sc) s ∧ KS 2 fZ t.wd (.slice zo z.length zc) z) := fun t => ⟨(HV.out.1.below HB0.out.1).below t.below, (HV.out.2.below HB0.out.1).below t.below⟩
    simp only [List.take_succ_cons, List.take_zero]
    repeat (go_big_quiet_step (first
      | (go_at_call 35; exact gb_call (H1.out _ (HV1.out _).1))
      | (go_at_call 36; exact gb_call (H1m.out _ (HV1.out _).2))
      | (go_at_call_of 37 (Value.int .i64 col); exact gb_call (H2.out _))
      | (go_at_call_of 37 (Value.int .i64 gap); exact gb_call (H3.out _))
      | (go_at_call 44; exact gb_call (H4.out _))))
    exact wpQuiet_nil rfl
  · intro i h1 h2
    have hc : i = 10 := by omega
    subst hc
    exact ⟨_, rfl, rfl, fun _ => by kernel_rfl⟩
  intro bl wx hbl hlo _
  obtain ⟨p1, p2⟩ := hlo 10 (by omega) (by omega)
  simp only [R4.layL]
  generalize bl 10 = g0 at *
  have HIS : Hid (IS wx (.slice (some ⟨g0, 0, none⟩) 5 5) [r1, r4, r2, r3, r5]) := by
    refine ⟨_, 5, rfl, Nat.le_refl _, fun _ => ⟨g0, 0, rfl, (Array.getElem?_eq_some_iff.1 p2).1, fun i hi => ?_⟩⟩
    have hb : Bk wx g0 (flatI [r1, r4, r2, r3, r5]).toArray 34 := p2
    rw [Nat.zero_add, hb.cell, List.getElem?_toArray]
    exact flatI_at _ i hi
  have HBw : Hid (Below w.heap.size w wx ∧ Bk wx w.heap.size #[.int .i64 rx, .int .i64 ry, .int .i64 rw', .int .i64 rh] 29) := ⟨HB0.out.1.trans (hbl.mono HB0.out.1.size), HB0.out.2.below hbl⟩
  clear hlo p1 p2 hbl HB0 H1 H1m H2 H3 H4
  refine wpAny_one 11 (by kernel_rfl) rfl ?_
  intro K hK
  go_simp
  refine (HFi.out _ _ HIS.out).mono ?_
  rintro e w2 ⟨rfl, rfl⟩
  refine hK _ _ ?_
  clear hK K HFi HIS
  refine wpAny_one 12 (by kernel_rfl) rfl ?_
  intro K hK
  go_simp
  refine hK _ _ ?_
  clear hK K
  refine wpAny_done (by kernel_rfl) ?_ _
  obtain ⟨bb, Hbb⟩ : ∃ bb, Hid (bb = w.heap.size) := ⟨_, rfl⟩
  have HB1 : Hid (Below w.heap.size w w2 ∧ IS w2 (.slice so s.length sc) s ∧ KS 2 fZ w2 (.slice zo z.length zc) z ∧ Bk w2 bb #[.int .i64 rx, .int .i64 ry, .int .i64 rw', .int .i64 rh] 29) := by rw [Hbb.out]; exact ⟨HBw.out.1, HV.out.1.below HBw.out.1, HV.out.2.below HBw.out.1, HBw.out.2⟩
  rw [← Hbb.out]
  clear HBw HV Hbb
  go_wp2_with fail
  refine (HSi.out _ _ HB1.out.2.2.1).mono ?_
  rintro e w3 ⟨hw, hh, rfl, H3⟩
  have HB3 : Hid (Below w.heap.size w w3 ∧ IS w3 (.slice so s.length sc) s ∧ Bk w3 bb #[.int .i64 rx, .int .i64 ry, .int .i64 rw', .int .i64 rh] 29 ∧ IS w3 hw (z.map (·.w)) ∧ IS w3 hh (z.map (·.h))) := ⟨HB1.out.1.trans (H3.out.2.2.mono HB1.out.1.size), HB1.out.2.1.below H3.out.2.2, HB1.out.2.2.2.below H3.out.2.2, H3.out.1.is, H3.out.2.1.is⟩
  clear HB1 H3 HSi il
  go_wp2_with fail
  refine (HCe.out _ _ HB3.out.2.1).mono ?_
  rintro e w4 ⟨pv, qv, rfl, H4⟩
  have HB4 : Hid (Below w.heap.size w w4 ∧ IS w4 (.slice so s.length sc) s ∧ Bk w4 bb #[.int .i64 rx, .int .i64 ry, .int .i64 rw', .int .i64 rh] 29 ∧ IS w4 hw (z.map (·.w)) ∧ IS w4 hh (z.map (·.h)) ∧ KS 2 fP w4 pv C ∧ IS w4 qv (wdL C)) := by
    obtain ⟨a1, a2, a3, a4, a5⟩ := HB3.out
    obtain ⟨c1, c2, c3⟩ := H4.out
    exact ⟨a1.trans (c3.mono a1.size), a2.below c3, a3.below c3, a4.below c3, a5.below c3, c1.ks encP, c2.is⟩
  clear HB3 H4 HCe
  go_wp2_with fail
  refine (HWi.out _ _ _ HB4.out.2.1 HB4.out.2.2.2.1).mono ?_
  rintro e w5 ⟨av, rfl, H5⟩
  have HB5 : Hid (Below w.heap.size w w5 ∧ IS w5 (.slice so s.length sc) s ∧ Bk w5 bb #[.int .i64 rx, .int .i64 ry, .int .i64 rw', .int .i64 rh] 29 ∧ IS w5 hh (z.map (·.h)) ∧ KS 2 fP w5 pv C ∧ IS w5 qv (wdL C) ∧ IS w5 av AL) := by
    obtain ⟨a1, a2, a3, a4, a5, a6, a7⟩ := HB4.out
    obtain ⟨c1, c3⟩ := H5.out
    exact ⟨a1.trans (c3.mono a1.size), a2.below c3, a3.below c3, a5.below c3, a6.below c3, a7.below c3, c1.is⟩
  obtain ⟨ao, ac, e1, hac, _⟩ := HB5.out.2.2.2.2.2.2
  rw [HWl.out] at e1 hac
  obtain ⟨wg, wo, e2⟩ : ∃ wg wo, ao = some ⟨wg, wo, none⟩ := by
    obtain ⟨_, _, e, _, h⟩ := HB5.out.2.2.2.2.2.2
    obtain ⟨g', o', e2, _⟩ := h (by rw [HWl.out]; exact hn0)
    rw [e1] at e
    injection e with e _ _
    exact ⟨g', o', e.trans e2⟩
  subst e2
  subst e1
  obtain ⟨po, pc, e1, _, _⟩ := HB5.out.2.2.2.2.1
  rw [HCl.out] at e1
  subst e1
  obtain ⟨qo, qc, e1, _, _⟩ := HB5.out.2.2.2.2.2.1
  rw [wdL_len, HCl.out] at e1
  subst e1
  obtain ⟨hgo, hc, e1, _, _⟩ := HB5.out.2.2.2.1
  subst e1
  obtain ⟨hwo, hwc, e1, _, _⟩ := HB4.out.2.2.2.1
  subst e1
  simp only [List.length_map]
  clear HB4 H5 HWi
  go_upto_region 9 with fail
  have hudc : ud ≤ ac := by omega
  have hudi : (ud : Int) ≤ (ac : Int) := by omega
  go_cut [18, 19, 20] (fun s18 s19 s20 wx => Hid (Below w5.heap.size w5 wx ∧ IS wx s18 xs ∧ IS wx s19 (bgs gap 0 xs)))
  case first =>
    have HIA : Hid (KS 2 fP w5 (.slice po s.length pc) C ∧ IS w5 (.slice qo s.length qc) (wdL C) ∧ IS w5 (.slice (some ⟨wg, wo, none⟩) ud ac) (AL.take ud)) := ⟨HB5.out.2.2.2.2.1, HB5.out.2.2.2.2.2.1, HB5.out.2.2.2.2.2.2.cut HWl.out hud⟩
    refine wp_region_inv (I := (fun b a x => ∃ u18 u19 u20 u66 u67 u68 u69 u70 u71 u72 u73 u74 u75 u76 u77 u78 u79 u80, a = ⟨#[.slice so s.length sc, .slice zo z.length zc, .int .i64 col, .int .i64 gap, .agg #[.int .i64 rx, .int .i64 ry, .int .i64 rw', .int .i64 rh], undef, undef, undef, undef, .pointer (some ⟨bb, 0, none⟩), .slice none 0 0, .int .i64 0, .int .i64 0, .slice hwo z.length hwc, .slice hgo z.length hc, .slice po s.length pc, .slice qo s.length qc, .slice (some ⟨wg, wo, none⟩) n ac, u18, u19, u20, undef, undef, undef, undef, undef, undef, undef, undef, undef, .slice so s.length sc, .int .i64 r1, .slice zo z.length zc, .int .i64 r4, .int .i64 col, .int .i64 r2, .int .i64 gap, .int .i64 r3, .agg #[.int .i64 rx, .int .i64 ry, .int .i64 rw', .int .i64 rh], .int .i64 r5, .slice (some ⟨g0, 0, none⟩) 5 5, .int .i64 0, .int .i64 0, .bool false, undef, .slice zo z.length zc, .int .i64 (s.length : Nat), .slice so s.length sc, .int .i64 (s.length : Nat), .bool false, .tuple #[.slice hwo z.length hwc, .slice hgo z.length hc], .slice zo z.length zc, .tuple #[.slice hwo z.length hwc, .slice hgo z.length hc], .slice hwo z.length hwc, .slice hgo z.length hc, .tuple #[.slice po s.length pc, .slice qo s.length qc], .slice so s.length sc, .int .i64 col, .tuple #[.slice po s.length pc, .slice qo s.length qc], .slice po s.length pc, .slice qo s.length qc, .slice so s.length sc, .slice hwo z.length hwc, .int .i64 col, .int .i64 gap, .slice (some ⟨wg, wo, none⟩) n ac, u66, u67, u68, u69, u70, u71, u72, u73, u74, u75, u76, u77, u78, u79, u80, undef, undef, undef, undef, undef, undef, undef, undef, undef, undef, undef, undef, undef, undef, undef, undef, undef, undef, undef, undef, undef, undef, undef, undef, undef, undef, undef, undef, undef, undef, undef, undef, undef, undef, undef, undef, undef, undef, undef, undef, undef, undef, undef, undef, undef, undef, undef, undef, undef, undef, undef, undef, undef, undef, undef, undef, undef, undef, undef, undef, undef, undef, undef, undef, undef, undef, undef, undef, undef, undef, undef, undef, undef, undef, undef, undef, undef, undef, undef, undef, undef, undef, undef, undef, undef, undef, undef], []⟩ ∧ Hid (JT1 w5 po qo pc qc wg wo n ac ud bb gap rx ry rw' rh s AL xs b u18 u19 u20 u66 u67 u68 u69 u70 u71 u72 u73 u74 u75 u76 u77 u78 u79 u80 x))) (by kernel_rfl) (by kernel_rfl) ?_ ?_ ?_
    · exact ⟨_, _, _, _, _, _, _, _, _, _, _, _, _, _, _, _, _, _, rfl, ⟨(fun e => by cases e), (fun e => by cases e), (fun e => by cases e), (fun e => by cases e), (fun e => by cases e), (fun e => by cases e), (fun e => by cases e), (fun e => by cases e), (fun e => by cases e), (fun e => by cases e), (fun e => by cases e), (fun e => by cases e), (fun e => by cases e), (fun e => by cases e), (fun e => by cases e), (fun e => by cases e), (fun e => by cases e), (fun e => by cases e), (Below.refl _ _).drew, HB5.out.2.2.1.drew⟩⟩
    · intro b a x i o hI hbi ho hpre K' hK
      obtain ⟨u18, u19, u20, u66, u67, u68, u69, u70, u71, u72, u73, u74, u75, u76, u77, u78, u79, u80, rfl, HJ⟩ := hI
      have hi : i < 18 := by have := (Array.getElem?_eq_some_iff.1 ho).1; simpa using this
      rcases (show i = 0 ∨ i = 1 ∨ i = 2 ∨ i = 3 ∨ i = 4 ∨ i = 5 ∨ i = 6 ∨ i = 7 ∨ i = 8 ∨ i = 9 ∨ i = 10 ∨ i = 11 ∨ i = 12 ∨ i = 13 ∨ i = 14 ∨ i = 15 ∨ i = 16 ∨ i = 17 by omega) with rfl | rfl | rfl | rfl | rfl | rfl | rfl | rfl | rfl | rfl | rfl | rfl | rfl | rfl | rfl | rfl | rfl | rfl
      · injection (show some _ = some o from ho) with ho
        subst ho
        have HN : Hid (JT1 w5 po qo pc qc wg wo n ac ud bb gap rx ry rw' rh s AL xs (fun j => if j = 0 then true else b j) u18 u19 u20 u66 (.slice (some ⟨wg, wo, none⟩) n ac) u68 u69 u70 u71 u72 u73 u74 u75 u76 u77 u78 u79 u80 x) := by
          obtain ⟨j0, j1, j2, j3, j4, j5, j6, j7, j8, j9, j10, j11, j12, j13, j14, j15, j16, j17, e0, e1⟩ := HJ.out
          exact ⟨fun _ => rfl, j1, j2, j3, j4, j5, j6, j7, j8, j9, j10, j11, j12, j13, j14, j15, j16, j17, e0, e1⟩
        clear HJ hpre
        go_simp
        exact hK _ _ ⟨u18, u19, u20, u66, _, u68, u69, u70, u71, u72, u73, u74, u75, u76, u77, u78, u79, u80, rfl, HN⟩
      · injection (show some _ = some o from ho) with ho
        subst ho
        have HN : Hid (JT1 w5 po qo pc qc wg wo n ac ud bb gap rx ry rw' rh s AL xs (fun j => if j = 1 then true else b j) u18 u19 u20 u66 u67 (.slice po s.length pc) u69 u70 u71 u72 u73 u74 u75 u76 u77 u78 u79 u80 x) := by
          obtain ⟨j0, j1, j2, j3, j4, j5, j6, j7, j8, j9, j10, j11, j12, j13, j14, j15, j16, j17, e0, e1⟩ := HJ.out
          exact ⟨j0, fun _ => rfl, j2, j3, j4, j5, j6, j7, j8, j9, j10, j11, j12, j13, j14, j15, j16, j17, e0, e1⟩
        clear HJ hpre
        go_simp
        exact hK _ _ ⟨u18, u19, u20, u66, u67, _, u69, u70, u71, u72, u73, u74, u75, u76, u77, u78, u79, u80, rfl, HN⟩
      · injection (show some _ = some o from ho) with ho
        subst ho
        have HN : Hid (JT1 w5 po qo pc qc wg wo n ac ud bb gap rx ry rw' rh s AL xs (fun j => if j = 2 then true else b j) u18 u19 u20 u66 u67 u68 (.slice qo s.length qc) u70 u71 u72 u73 u74 u75 u76 u77 u78 u79 u80 x) := by
          obtain ⟨j0, j1, j2, j3, j4, j5, j6, j7, j8, j9, j10, j11, j12, j13, j14, j15, j16, j17, e0, e1⟩ := HJ.out
          exact ⟨j0, j1, fun _ => rfl, j3, j4, j5, j6, j7, j8, j9, j10, j11, j12, j13, j14, j15, j16, j17, e0, e1⟩
        clear HJ hpre
        go_simp
        exact hK _ _ ⟨u18, u19, u20, u66, u67, u68, _, u70, u71, u72, u73, u74, u75, u76, u77, u78, u79, u80, rfl, HN⟩
      · injection (show some _ = some o from ho) with ho
        subst ho
        have p1 : b 1 = true := hpre 1 (by decide +kernel)
        obtain rfl : u68 = .slice po s.length pc := by obtain ⟨j0, j1, j2, j3, j4, j5, j6, j7, j8, j9, j10, j11, j12, j13, j14, j15, j16, j17, e0, e1⟩ := HJ.out; exact (j1 p1)
        have p2 : b 2 = true := hpre 2 (by decide +kernel)
        obtain rfl : u69 = .slice qo s.length qc := by obtain ⟨j0, j1, j2, j3, j4, j5, j6, j7, j8, j9, j10, j11, j12, j13, j14, j15, j16, j17, e0, e1⟩ := HJ.out; exact (j2 p2)
        have hbx : Below w5.heap.size w5 x := by obtain ⟨j0, j1, j2, j3, j4, j5, j6, j7, j8, j9, j10, j11, j12, j13, j14, j15, j16, j17, e0, e1⟩ := HJ.out; exact e0
        have HC := HUs.out (.slice po s.length pc) (.slice qo s.length qc) x (HIA.out.1.below hbx) (HIA.out.2.1.below hbx)
        have HN : Hid (∀ x', Below x.heap.size x x' → JT1 w5 po qo pc qc wg wo n ac ud bb gap rx ry rw' rh s AL xs (fun j => if j = 3 then true else b j) u18 u19 u20 u66 u67 (.slice po s.length pc) (.slice qo s.length qc) (.int .i64 (ud : Nat)) u71 u72 u73 u74 u75 u76 u77 u78 u79 u80 x') := fun x' hb => by
          obtain ⟨j0, j1, j2, j3, j4, j5, j6, j7, j8, j9, j10, j11, j12, j13, j14, j15, j16, j17, e0, e1⟩ := HJ.out.grow hb
          exact ⟨j0, j1, j2, (fun _ => rfl), j4, j5, j6, j7, j8, j9, j10, j11, j12, j13, j14, j15, j16, j17, e0, e1⟩
        clear HJ hpre hbx
        go_simp
        refine HC.mono ?_
        rintro e x' ⟨rfl, hb⟩
        exact hK _ _ ⟨u18, u19, u20, u66, u67, _, _, _, u71, u72, u73, u74, u75, u76, u77, u78, u79, u80, rfl, HN.out x' hb⟩
      · injection (show some _ = some o from ho) with ho
        subst ho
        have p0 : b 0 = true := hpre 0 (by decide +kernel)
        obtain rfl : u67 = .slice (some ⟨wg, wo, none⟩) n ac := by obtain ⟨j0, j1, j2, j3, j4, j5, j6, j7, j8, j9, j10, j11, j12, j13, j14, j15, j16, j17, e0, e1⟩ := HJ.out; exact (j0 p0)
        have p3 : b 3 = true := hpre 3 (by decide +kernel)
        obtain rfl : u70 = .int .i64 (ud : Nat) := by obtain ⟨j0, j1, j2, j3, j4, j5, j6, j7, j8, j9, j10, j11, j12, j13, j14, j15, j16, j17, e0, e1⟩ := HJ.out; exact (j3 p3)
        have HN : Hid (JT1 w5 po qo pc qc wg wo n ac ud bb gap rx ry rw' rh s AL xs (fun j => if j = 4 then true else b j) u18 u19 u20 u66 (.slice (some ⟨wg, wo, none⟩) n ac) u68 u69 (.int .i64 (ud : Nat)) (.slice (some ⟨wg, wo, none⟩) ud ac) u72 u73 u74 u75 u76 u77 u78 u79 u80 x) := by
          obtain ⟨j0, j1, j2, j3, j4, j5, j6, j7, j8, j9, j10, j11, j12, j13, j14, j15, j16, j17, e0, e1⟩ := HJ.out
          exact ⟨j0, j1, j2, j3, fun _ => rfl, j5, j6, j7, j8, j9, j10, j11, j12, j13, j14, j15, j16, j17, e0, e1⟩
        clear HJ hpre
        go_simp
        exact hK _ _ ⟨u18, u19, u20, u66, _, u68, u69, _, _, u72, u73, u74, u75, u76, u77, u78, u79, u80, rfl, HN⟩
      · injection (show some _ = some o from ho) with ho
        subst ho
        have p4 : b 4 = true := hpre 4 (by decide +kernel)
        obtain rfl : u71 = .slice (some ⟨wg, wo, none⟩) ud ac := by obtain ⟨j0, j1, j2, j3, j4, j5, j6, j7, j8, j9, j10, j11, j12, j13, j14, j15, j16, j17, e0, e1⟩ := HJ.out; exact (j4 p4)
        have hbx : Below w5.heap.size w5 x := by obtain ⟨j0, j1, j2, j3, j4, j5, j6, j7, j8, j9, j10, j11, j12, j13, j14, j15, j16, j17, e0, e1⟩ := HJ.out; exact e0
        have HC := HT1.out (.slice (some ⟨wg, wo, none⟩) ud ac) x (HIA.out.2.2.below hbx)
        have HN : Hid (∀ tv x', Below x.heap.size x x' → TS x' tv ((AL.take ud).map trk) → JT1 w5 po qo pc qc wg wo n ac ud bb gap rx ry rw' rh s AL xs (fun j => if j = 5 then true else b j) u18 u19 u20 u66 u67 u68 u69 u70 (.slice (some ⟨wg, wo, none⟩) ud ac) (tv) u73 u74 u75 u76 u77 u78 u79 u80 x') := fun tv x' hb ht => by
          obtain ⟨j0, j1, j2, j3, j4, j5, j6, j7, j8, j9, j10, j11, j12, j13, j14, j15, j16, j17, e0, e1⟩ := HJ.out.grow hb
          exact ⟨j0, j1, j2, j3, j4, (fun _ => ht), j6, j7, j8, j9, j10, j11, j12, j13, j14, j15, j16, j17, e0, e1⟩
        clear HJ hpre hbx
        go_simp
        refine HC.mono ?_
        rintro e x' ⟨tv, rfl, H⟩
        exact hK _ _ ⟨u18, u19, u20, u66, u67, u68, u69, u70, _, _, u73, u74, u75, u76, u77, u78, u79, u80, rfl, HN.out tv x' H.out.2 H.out.1⟩
      · injection (show some _ = some o from ho) with ho
        subst ho
        have HN : Hid (JT1 w5 po qo pc qc wg wo n ac ud bb gap rx ry rw' rh s AL xs (fun j => if j = 6 then true else b j) u18 u19 u20 u66 u67 u68 u69 u70 u71 u72 (.int .i64 gap) u74 u75 u76 u77 u78 u79 u80 x) := by
          obtain ⟨j0, j1, j2, j3, j4, j5, j6, j7, j8, j9, j10, j11, j12, j13, j14, j15, j16, j17, e0, e1⟩ := HJ.out
          exact ⟨j0, j1, j2, j3, j4, j5, fun _ => rfl, j7, j8, j9, j10, j11, j12, j13, j14, j15, j16, j17, e0, e1⟩
        clear HJ hpre
        go_simp
        exact hK _ _ ⟨u18, u19, u20, u66, u67, u68, u69, u70, u71, u72, _, u74, u75, u76, u77, u78, u79, u80, rfl, HN⟩
      · injection (show some _ = some o from ho) with ho
        subst ho
        have HN : Hid (JT1 w5 po qo pc qc wg wo n ac ud bb gap rx ry rw' rh s AL xs (fun j => if j = 7 then true else b j) u18 u19 u20 u66 u67 u68 u69 u70 u71 u72 u73 (.pointer (some ⟨bb, 2, none⟩)) u75 u76 u77 u78 u79 u80 x) := by
          obtain ⟨j0, j1, j2, j3, j4, j5, j6, j7, j8, j9, j10, j11, j12, j13, j14, j15, j16, j17, e0, e1⟩ := HJ.out
          exact ⟨j0, j1, j2, j3, j4, j5, j6, fun _ => rfl, j8, j9, j10, j11, j12, j13, j14, j15, j16, j17, e0, e1⟩
        clear HJ hpre
        go_simp
        exact hK _ _ ⟨u18, u19, u20, u66, u67, u68, u69, u70, u71, u72, u73, _, u75, u76, u77, u78, u79, u80, rfl, HN⟩
      · injection (show some _ = some o from ho) with ho
        subst ho
        have p7 : b 7 = true := hpre 7 (by decide +kernel)
        obtain rfl : u74 = .pointer (some ⟨bb, 2, none⟩) := by obtain ⟨j0, j1, j2, j3, j4, j5, j6, j7, j8, j9, j10, j11, j12, j13, j14, j15, j16, j17, e0, e1⟩ := HJ.out; exact (j7 p7)
        have HN : Hid (JT1 w5 po qo pc qc wg wo n ac ud bb gap rx ry rw' rh s AL xs (fun j => if j = 8 then true else b j) u18 u19 u20 u66 u67 u68 u69 u70 u71 u72 u73 (.pointer (some ⟨bb, 2, none⟩)) (.pointer (some ⟨bb, 2, none⟩)) u76 u77 u78 u79 u80 x) := by
          obtain ⟨j0, j1, j2, j3, j4, j5, j6, j7, j8, j9, j10, j11, j12, j13, j14, j15, j16, j17, e0, e1⟩ := HJ.out
          exact ⟨j0, j1, j2, j3, j4, j5, j6, j7, fun _ => rfl, j9, j10, j11, j12, j13, j14, j15, j16, j17, e0, e1⟩
        clear HJ hpre
        go_simp
        exact hK _ _ ⟨u18, u19, u20, u66, u67, u68, u69, u70, u71, u72, u73, _, _, u76, u77, u78, u79, u80, rfl, HN⟩
      · injection (show some _ = some o from ho) with ho
        subst ho
        have p8 : b 8 = true := hpre 8 (by decide +kernel)
        obtain rfl : u75 = .pointer (some ⟨bb, 2, none⟩) := by obtain ⟨j0, j1, j2, j3, j4, j5, j6, j7, j8, j9, j10, j11, j12, j13, j14, j15, j16, j17, e0, e1⟩ := HJ.out; exact (j8 p8)
        have c0 : x.cell? ⟨bb, 2, none⟩ = some (.int .i64 rw') := by obtain ⟨j0, j1, j2, j3, j4, j5, j6, j7, j8, j9, j10, j11, j12, j13, j14, j15, j16, j17, e0, e1⟩ := HJ.out; rw [e1.cell]; rfl
        have HN : Hid (JT1 w5 po qo pc qc wg wo n ac ud bb gap rx ry rw' rh s AL xs (fun j => if j = 9 then true else b j) u18 u19 u20 u66 u67 u68 u69 u70 u71 u72 u73 u74 (.pointer (some ⟨bb, 2, none⟩)) (.int .i64 rw') u77 u78 u79 u80 x) := by
          obtain ⟨j0, j1, j2, j3, j4, j5, j6, j7, j8, j9, j10, j11, j12, j13, j14, j15, j16, j17, e0, e1⟩ := HJ.out
          exact ⟨j0, j1, j2, j3, j4, j5, j6, j7, j8, fun _ => rfl, j10, j11, j12, j13, j14, j15, j16, j17, e0, e1⟩
        clear HJ hpre
        go_simp
        exact hK _ _ ⟨u18, u19, u20, u66, u67, u68, u69, u70, u71, u72, u73, u74, _, _, u77, u78, u79, u80, rfl, HN⟩
      · injection (show some _ = some o from ho) with ho
        subst ho
        have p6 : b 6 = true := hpre 6 (by decide +kernel)
        obtain rfl : u73 = .int .i64 gap := by obtain ⟨j0, j1, j2, j3, j4, j5, j6, j7, j8, j9, j10, j11, j12, j13, j14, j15, j16, j17, e0, e1⟩ := HJ.out; exact (j6 p6)
        have p9 : b 9 = true := hpre 9 (by decide +kernel)
        obtain rfl : u76 = .int .i64 rw' := by obtain ⟨j0, j1, j2, j3, j4, j5, j6, j7, j8, j9, j10, j11, j12, j13, j14, j15, j16, j17, e0, e1⟩ := HJ.out; exact (j9 p9)
        have p5 : b 5 = true := hpre 5 (by decide +kernel)
        have hts : TS x u72 ((AL.take ud).map trk) := by obtain ⟨j0, j1, j2, j3, j4, j5, j6, j7, j8, j9, j10, j11, j12, j13, j14, j15, j16, j17, e0, e1⟩ := HJ.out; exact j5 p5
        have HC := HR1.out _ x hts
        have HN : Hid (∀ v u x', Below x.heap.size x x' → IS x' v xs → IS x' u (bgs gap 0 xs) → JT1 w5 po qo pc qc wg wo n ac ud bb gap rx ry rw' rh s AL xs (fun j => if j = 10 then true else b j) u18 u19 u20 u66 u67 u68 u69 u70 u71 u72 (.int .i64 gap) u74 u75 (.int .i64 rw') (.tuple #[v, u, .int .i64 0]) u78 u79 u80 x') := fun v u x' hb h1 h2 => by
          obtain ⟨j0, j1, j2, j3, j4, j5, j6, j7, j8, j9, j10, j11, j12, j13, j14, j15, j16, j17, e0, e1⟩ := HJ.out.grow hb
          exact ⟨j0, j1, j2, j3, j4, j5, j6, j7, j8, j9, (fun _ => ⟨v, u, rfl, h1, h2⟩), (fun h => absurd (hbi.symm.trans (j11 h).1) (by decide)), (fun h => absurd (hbi.symm.trans (j12 h).1) (by decide)), (fun h => absurd (hbi.symm.trans (j13 h).1) (by decide)), j14, j15, j16, j17, e0, e1⟩
        clear HJ hpre hts
        go_simp
        refine HC.mono ?_
        rintro e x' ⟨v, u, rfl, H⟩
        exact hK _ _ ⟨u18, u19, u20, u66, u67, u68, u69, u70, u71, u72, _, u74, u75, _, _, u78, u79, u80, rfl, HN.out v u x' H.out.2.2 H.out.1 H.out.2.1⟩
      · injection (show some _ = some o from ho) with ho
        subst ho
        have p10 : b 10 = true := hpre 10 (by decide +kernel)
        have HN : Hid (JT1 w5 po qo pc qc wg wo n ac ud bb gap rx ry rw' rh s AL xs (fun j => if j = 11 then true else b j) u18 u19 u20 (u77) u67 u68 u69 u70 u71 u72 u73 u74 u75 u76 u77 u78 u79 u80 x) := by
          obtain ⟨j0, j1, j2, j3, j4, j5, j6, j7, j8, j9, j10, j11, j12, j13, j14, j15, j16, j17, e0, e1⟩ := HJ.out
          exact ⟨j0, j1, j2, j3, j4, j5, j6, j7, j8, j9, j10, (fun _ => ⟨p10, rfl⟩), j12, j13, j14, j15, j16, j17, e0, e1⟩
        clear HJ hpre
        go_simp
        exact hK _ _ ⟨u18, u19, u20, _, u67, u68, u69, u70, u71, u72, u73, u74, u75, u76, u77, u78, u79, u80, rfl, HN⟩
      · injection (show some _ = some o from ho) with ho
        subst ho
        have p11 : b 11 = true := hpre 11 (by decide +kernel)
        obtain ⟨p10, rfl⟩ : b 10 = true ∧ u66 = u77 := by obtain ⟨j0, j1, j2, j3, j4, j5, j6, j7, j8, j9, j10, j11, j12, j13, j14, j15, j16, j17, e0, e1⟩ := HJ.out; exact j11 p11
        obtain ⟨v, u, rfl⟩ : ∃ v u, u66 = .tuple #[v, u, .int .i64 0] := by obtain ⟨j0, j1, j2, j3, j4, j5, j6, j7, j8, j9, j10, j11, j12, j13, j14, j15, j16, j17, e0, e1⟩ := HJ.out; obtain ⟨v, u, e, _⟩ := j10 p10; exact ⟨v, u, e⟩
        have HN : Hid (JT1 w5 po qo pc qc wg wo n ac ud bb gap rx ry rw' rh s AL xs (fun j => if j = 12 then true else b j) u18 u19 u20 (.tuple #[v, u, .int .i64 0]) u67 u68 u69 u70 u71 u72 u73 u74 u75 u76 (.tuple #[v, u, .int .i64 0]) (v) u79 u80 x) := by
          obtain ⟨j0, j1, j2, j3, j4, j5, j6, j7, j8, j9, j10, j11, j12, j13, j14, j15, j16, j17, e0, e1⟩ := HJ.out
          exact ⟨j0, j1, j2, j3, j4, j5, j6, j7, j8, j9, j10, j11, (fun _ => ⟨p10, rfl⟩), j13, j14, (fun h => absurd (hbi.symm.trans (j15 h).1) (by decide)), j16, j17, e0, e1⟩
        clear HJ hpre
        go_simp
        exact hK _ _ ⟨u18, u19, u20, _, u67, u68, u69, u70, u71, u72, u73, u74, u75, u76, _, _, u79, u80, rfl, HN⟩
      · injection (show some _ = some o from ho) with ho
        subst ho
        have p11 : b 11 = true := hpre 11 (by decide +kernel)
        obtain ⟨p10, rfl⟩ : b 10 = true ∧ u66 = u77 := by obtain ⟨j0, j1, j2, j3, j4, j5, j6, j7, j8, j9, j10, j11, j12, j13, j14, j15, j16, j17, e0, e1⟩ := HJ.out; exact j11 p11
        obtain ⟨v, u, rfl⟩ : ∃ v u, u66 = .tuple #[v, u, .int .i64 0] := by obtain ⟨j0, j1, j2, j3, j4, j5, j6, j7, j8, j9, j10, j11, j12, j13, j14, j15, j16, j17, e0, e1⟩ := HJ.out; obtain ⟨v, u, e, _⟩ := j10 p10; exact ⟨v, u, e⟩
        have HN : Hid (JT1 w5 po qo pc qc wg wo n ac ud bb gap rx ry rw' rh s AL xs (fun j => if j = 13 then true else b j) u18 u19 u20 (.tuple #[v, u, .int .i64 0]) u67 u68 u69 u70 u71 u72 u73 u74 u75 u76 (.tuple #[v, u, .int .i64 0]) u78 (u) u80 x) := by
          obtain ⟨j0, j1, j2, j3, j4, j5, j6, j7, j8, j9, j10, j11, j12, j13, j14, j15, j16, j17, e0, e1⟩ := HJ.out
          exact ⟨j0, j1, j2, j3, j4, j5, j6, j7, j8, j9, j10, j11, j12, (fun _ => ⟨p10, rfl⟩), j14, j15, (fun h => absurd (hbi.symm.trans (j16 h).1) (by decide)), j17, e0, e1⟩
        clear HJ hpre
        go_simp
        exact hK _ _ ⟨u18, u19, u20, _, u67, u68, u69, u70, u71, u72, u73, u74, u75, u76, _, u78, _, u80, rfl, HN⟩
      · injection (show some _ = some o from ho) with ho
        subst ho
        have p11 : b 11 = true := hpre 11 (by decide +kernel)
        obtain ⟨p10, rfl⟩ : b 10 = true ∧ u66 = u77 := by obtain ⟨j0, j1, j2, j3, j4, j5, j6, j7, j8, j9, j10, j11, j12, j13, j14, j15, j16, j17, e0, e1⟩ := HJ.out; exact j11 p11
        obtain ⟨v, u, rfl⟩ : ∃ v u, u66 = .tuple #[v, u, .int .i64 0] := by obtain ⟨j0, j1, j2, j3, j4, j5, j6, j7, j8, j9, j10, j11, j12, j13, j14, j15, j16, j17, e0, e1⟩ := HJ.out; obtain ⟨v, u, e, _⟩ := j10 p10; exact ⟨v, u, e⟩
        have HN : Hid (JT1 w5 po qo pc qc wg wo n ac ud bb gap rx ry rw' rh s AL xs (fun j => if j = 14 then true else b j) u18 u19 u20 (.tuple #[v, u, .int .i64 0]) u67 u68 u69 u70 u71 u72 u73 u74 u75 u76 (.tuple #[v, u, .int .i64 0]) u78 u79 (.int .i64 0) x) := by
          obtain ⟨j0, j1, j2, j3, j4, j5, j6, j7, j8, j9, j10, j11, j12, j13, j14, j15, j16, j17, e0, e1⟩ := HJ.out
          exact ⟨j0, j1, j2, j3, j4, j5, j6, j7, j8, j9, j10, j11, j12, j13, (fun _ => rfl), j15, j16, j17, e0, e1⟩
        clear HJ hpre
        go_simp
        exact hK _ _ ⟨u18, u19, u20, _, u67, u68, u69, u70, u71, u72, u73, u74, u75, u76, _, u78, u79, _, rfl, HN⟩
      · injection (show some _ = some o from ho) with ho
        subst ho
        have pp : b 12 = true := hpre 12 (by decide +kernel)
        have HN : Hid (JT1 w5 po qo pc qc wg wo n ac ud bb gap rx ry rw' rh s AL xs (fun j => if j = 15 then true else b j) (u78) u19 u20 u66 u67 u68 u69 u70 u71 u72 u73 u74 u75 u76 u77 u78 u79 u80 x) := by
          obtain ⟨j0, j1, j2, j3, j4, j5, j6, j7, j8, j9, j10, j11, j12, j13, j14, j15, j16, j17, e0, e1⟩ := HJ.out
          exact ⟨j0, j1, j2, j3, j4, j5, j6, j7, j8, j9, j10, j11, j12, j13, j14, (fun _ => ⟨pp, rfl⟩), j16, j17, e0, e1⟩
        clear HJ hpre
        go_simp
        exact hK _ _ ⟨_, u19, u20, u66, u67, u68, u69, u70, u71, u72, u73, u74, u75, u76, u77, u78, u79, u80, rfl, HN⟩
      · injection (show some _ = some o from ho) with ho
        subst ho
        have pp : b 13 = true := hpre 13 (by decide +kernel)
        have HN : Hid (JT1 w5 po qo pc qc wg wo n ac ud bb gap rx ry rw' rh s AL xs (fun j => if j = 16 then true else b j) u18 (u79) u20 u66 u67 u68 u69 u70 u71 u72 u73 u74 u75 u76 u77 u78 u79 u80 x) := by
          obtain ⟨j0, j1, j2, j3, j4, j5, j6, j7, j8, j9, j10, j11, j12, j13, j14, j15, j16, j17, e0, e1⟩ := HJ.out
          exact ⟨j0, j1, j2, j3, j4, j5, j6, j7, j8, j9, j10, j11, j12, j13, j14, j15, (fun _ => ⟨pp, rfl⟩), j17, e0, e1⟩
        clear HJ hpre
        go_simp
        exact hK _ _ ⟨u18, _, u20, u66, u67, u68, u69, u70, u71, u72, u73, u74, u75, u76, u77, u78, u79, u80, rfl, HN⟩
      · injection (show some _ = some o from ho) with ho
        subst ho
        have p14 : b 14 = true := hpre 14 (by decide +kernel)
        obtain rfl : u80 = .int .i64 0 := by obtain ⟨j0, j1, j2, j3, j4, j5, j6, j7, j8, j9, j10, j11, j12, j13, j14, j15, j16, j17, e0, e1⟩ := HJ.out; exact (j14 p14)
        have HN : Hid (JT1 w5 po qo pc qc wg wo n ac ud bb gap rx ry rw' rh s AL xs (fun j => if j = 17 then true else b j) u18 u19 (.int .i64 0) u66 u67 u68 u69 u70 u71 u72 u73 u74 u75 u76 u77 u78 u79 (.int .i64 0) x) := by
          obtain ⟨j0, j1, j2, j3, j4, j5, j6, j7, j8, j9, j10, j11, j12, j13, j14, j15, j16, j17, e0, e1⟩ := HJ.out
          exact ⟨j0, j1, j2, j3, j4, j5, j6, j7, j8, j9, j10, j11, j12, j13, j14, j15, j16, fun _ => rfl, e0, e1⟩
        clear HJ hpre
        go_simp
        exact hK _ _ ⟨u18, u19, _, u66, u67, u68, u69, u70, u71, u72, u73, u74, u75, u76, u77, u78, u79, _, rfl, HN⟩
    · intro b a x hI hall
      obtain ⟨u18, u19, u20, u66, u67, u68, u69, u70, u71, u72, u73, u74, u75, u76, u77, u78, u79, u80, rfl, HJ⟩ := hI
      have hall' : ∀ i, i < 18 → b i = true := fun i hi => hall i (by simpa using hi)
      obtain ⟨j0, j1, j2, j3, j4, j5, j6, j7, j8, j9, j10, j11, j12, j13, j14, j15, j16, j17, e0, e1⟩ := HJ.out
      have HF : Hid (Below w5.heap.size w5 x ∧ IS x u18 xs ∧ IS x u19 (bgs gap 0 xs)) := by
        obtain ⟨v, u, e, o1, o2⟩ := j10 (hall' 10 (by omega))
        have e1' := (j12 (hall' 12 (by omega))).2
        have e2' := (j13 (hall' 13 (by omega))).2
        rw [e] at e1' e2'
        rw [(j15 (hall' 15 (by omega))).2, (j16 (hall' 16 (by omega))).2, e1', e2']
        exact ⟨e0, o1, o2⟩
      clear HJ hall hall' j0 j1 j2 j3 j4 j5 j6 j7 j8 j9 j10 j11 j12 j13 j14 j15 j16 j17 e0 e1
      go_wp2_with fail
      go_meet
      exact HF
  case rest =>
  have HB6 : Hid (Below w.heap.size w wc ∧ IS wc (.slice so s.length sc) s ∧ Bk wc bb #[.int .i64 rx, .int .i64 ry, .int .i64 rw', .int .i64 rh] 29 ∧ IS wc (.slice hgo z.length hc) (z.map (·.h)) ∧ KS 2 fP wc (.slice po s.length pc) C ∧ IS wc (.slice qo s.length qc) (wdL C) ∧ IS wc u18 xs ∧ IS wc u19 (bgs gap 0 xs)) := by
    obtain ⟨a1, a2, a3, a4, a5, a6, _⟩ := HB5.out
    obtain ⟨c1, c2, c3⟩ := Hid.out hcut
    exact ⟨a1.trans (c1.mono a1.size), a2.below c1, a3.below c1, (by have h := a4.below c1; rwa [List.length_map] at h), a5.below c1, a6.below c1, c2, c3⟩
  go_upto_region 10 with fail
  go_cut [21, 22, 23] (fun s21 s22 s23 wx => Hid (Below wc.heap.size wc wx ∧ IS wx s21 ys ∧ IS wx s22 (bgs gap 0 ys)))
  case first =>
    have HIA : Hid (IS wc (.slice so s.length sc) s ∧ IS wc (.slice hgo z.length hc) (z.map (·.h))) := ⟨HB6.out.2.1, HB6.out.2.2.2.1⟩
    refine wp_region_inv (I := (fun b a x => ∃ u21 u22 u23 u81 u82 u83 u84 u85 u86 u87 u88 u89 u90 u91 u92 u93 u94, a = ⟨#[.slice so s.length sc, .slice zo z.length zc, .int .i64 col, .int .i64 gap, .agg #[.int .i64 rx, .int .i64 ry, .int .i64 rw', .int .i64 rh], undef, undef, undef, undef, .pointer (some ⟨bb, 0, none⟩), .slice none 0 0, .int .i64 0, .int .i64 0, .slice hwo z.length hwc, .slice hgo z.length hc, .slice po s.length pc, .slice qo s.length qc, .slice (some ⟨wg, wo, none⟩) n ac, u18, u19, u20, u21, u22, u23, undef, undef, undef, undef, undef, undef, u30, u31, u32, u33, u34, u35, u36, u37, u38, u39, u40, u41, u42, u43, u44, u45, u46, u47, u48, u49, u50, u51, u52, u53, u54, u55, u56, u57, u58, u59, u60, u61, u62, u63, u64, u65, u66, u67, u68, u69, u70, u71, u72, u73, u74, u75, u76, u77, u78, u79, u80, u81, u82, u83, u84, u85, u86, u87, u88, u89, u90, u91, u92, u93, u94, u95, u96, u97, u98, u99, u100, u101, u102, u103, u104, u105, u106, u107, u108, u109, u110, u111, u112, u113, u114, u115, u116, u117, u118, u119, u120, u121, u122, u123, u124, u125, u126, u127, u128, u129, u130, u131, u132, u133, u134, u135, u136, u137, u138, u139, u140, u141, u142, u143, u144, u145, u146, u147, u148, u149, u150, u151, u152, u153, u154, u155, u156, u157, u158, u159, u160, u161, u162, u163, u164, u165, u166, u167], []⟩ ∧ Hid (JT2 wc so hgo sc hc bb col gap rx ry rw' rh s z l2 ys b u21 u22 u23 u81 u82 u83 u84 u85 u86 u87 u88 u89 u90 u91 u92 u93 u94 x))) (by kernel_rfl) (by kernel_rfl) ?_ ?_ ?_
    · exact ⟨_, _, _, _, _, _, _, _, _, _, _, _, _, _, _, _, _, rfl, ⟨(fun e => by cases e), (fun e => by cases e), (fun e => by cases e), (fun e => by cases e), (fun e => by cases e), (fun e => by cases e), (fun e => by cases e), (fun e => by cases e), (fun e => by cases e), (fun e => by cases e), (fun e => by cases e), (fun e => by cases e), (fun e => by cases e), (fun e => by cases e), (fun e => by cases e), (fun e => by cases e), (fun e => by cases e), (Below.refl _ _).drew, HB6.out.2.2.1.drew⟩⟩
    · intro b a x i o hI hbi ho hpre K' hK
      obtain ⟨u21, u22, u23, u81, u82, u83, u84, u85, u86, u87, u88, u89, u90, u91, u92, u93, u94, rfl, HJ⟩ := hI
      have hi : i < 17 := by have := (Array.getElem?_eq_some_iff.1 ho).1; simpa using this
      rcases (show i = 0 ∨ i = 1 ∨ i = 2 ∨ i = 3 ∨ i = 4 ∨ i = 5 ∨ i = 6 ∨ i = 7 ∨ i = 8 ∨ i = 9 ∨ i = 10 ∨ i = 11 ∨ i = 12 ∨ i = 13 ∨ i = 14 ∨ i = 15 ∨ i = 16 by omega) with rfl | rfl | rfl | rfl | rfl | rfl | rfl | rfl | rfl | rfl | rfl | rfl | rfl | rfl | rfl | rfl | rfl
      · injection (show some _ = some o from ho) with ho
        subst ho
        have HN : Hid (JT2 wc so hgo sc hc bb col gap rx ry rw' rh s z l2 ys (fun j => if j = 0 then true else b j) u21 u22 u23 u81 (.slice so s.length sc) u83 u84 u85 u86 u87 u88 u89 u90 u91 u92 u93 u94 x) := by
          obtain ⟨j0, j1, j2, j3, j4, j5, j6, j7, j8, j9, j10, j11, j12, j13, j14, j15, j16, e0, e1⟩ := HJ.out
          exact ⟨fun _ => rfl, j1, j2, j3, j4, j5, j6, j7, j8, j9, j10, j11, j12, j13, j14, j15, j16, e0, e1⟩
        clear HJ hpre
        go_simp
        exact hK _ _ ⟨u21, u22, u23, u81, _, u83, u84, u85, u86, u87, u88, u89, u90, u91, u92, u93, u94, rfl, HN⟩
      · injection (show some _ = some o from ho) with ho
        subst ho
        have HN : Hid (JT2 wc so hgo sc hc bb col gap rx ry rw' rh s z l2 ys (fun j => if j = 1 then true else b j) u21 u22 u23 u81 u82 (.slice hgo z.length hc) u84 u85 u86 u87 u88 u89 u90 u91 u92 u93 u94 x) := by
          obtain ⟨j0, j1, j2, j3, j4, j5, j6, j7, j8, j9, j10, j11, j12, j13, j14, j15, j16, e0, e1⟩ := HJ.out
          exact ⟨j0, fun _ => rfl, j2, j3, j4, j5, j6, j7, j8, j9, j10, j11, j12, j13, j14, j15, j16, e0, e1⟩
        clear HJ hpre
        go_simp
        exact hK _ _ ⟨u21, u22, u23, u81, u82, _, u84, u85, u86, u87, u88, u89, u90, u91, u92, u93, u94, rfl, HN⟩
      · injection (show some _ = some o from ho) with ho
        subst ho
        have HN : Hid (JT2 wc so hgo sc hc bb col gap rx ry rw' rh s z l2 ys (fun j => if j = 2 then true else b j) u21 u22 u23 u81 u82 u83 (.int .i64 col) u85 u86 u87 u88 u89 u90 u91 u92 u93 u94 x) := by
          obtain ⟨j0, j1, j2, j3, j4, j5, j6, j7, j8, j9, j10, j11, j12, j13, j14, j15, j16, e0, e1⟩ := HJ.out
          exact ⟨j0, j1, fun _ => rfl, j3, j4, j5, j6, j7, j8, j9, j10, j11, j12, j13, j14, j15, j16, e0, e1⟩
        clear HJ hpre
        go_simp
        exact hK _ _ ⟨u21, u22, u23, u81, u82, u83, _, u85, u86, u87, u88, u89, u90, u91, u92, u93, u94, rfl, HN⟩
      · injection (show some _ = some o from ho) with ho
        subst ho
        have p0 : b 0 = true := hpre 0 (by decide +kernel)
        obtain rfl : u82 = .slice so s.length sc := by obtain ⟨j0, j1, j2, j3, j4, j5, j6, j7, j8, j9, j10, j11, j12, j13, j14, j15, j16, e0, e1⟩ := HJ.out; exact (j0 p0)
        have p1 : b 1 = true := hpre 1 (by decide +kernel)
        obtain rfl : u83 = .slice hgo z.length hc := by obtain ⟨j0, j1, j2, j3, j4, j5, j6, j7, j8, j9, j10, j11, j12, j13, j14, j15, j16, e0, e1⟩ := HJ.out; exact (j1 p1)
        have p2 : b 2 = true := hpre 2 (by decide +kernel)
        obtain rfl : u84 = .int .i64 col := by obtain ⟨j0, j1, j2, j3, j4, j5, j6, j7, j8, j9, j10, j11, j12, j13, j14, j15, j16, e0, e1⟩ := HJ.out; exact (j2 p2)
        have hbx : Below wc.heap.size wc x := by obtain ⟨j0, j1, j2, j3, j4, j5, j6, j7, j8, j9, j10, j11, j12, j13, j14, j15, j16, e0, e1⟩ := HJ.out; exact e0
        have HC := HHe.out (.slice so s.length sc) (.slice hgo z.length hc) x (HIA.out.1.below hbx) (HIA.out.2.below hbx)
        have HN : Hid (∀ v85 x', Below x.heap.size x x' → IS x' v85 l2 → JT2 wc so hgo sc hc bb col gap rx ry rw' rh s z l2 ys (fun j => if j = 3 then true else b j) u21 u22 u23 u81 (.slice so s.length sc) (.slice hgo z.length hc) (.int .i64 col) (v85) u86 u87 u88 u89 u90 u91 u92 u93 u94 x') := fun v85 x' hb hi => by
          obtain ⟨j0, j1, j2, j3, j4, j5, j6, j7, j8, j9, j10, j11, j12, j13, j14, j15, j16, e0, e1⟩ := HJ.out.grow hb
          exact ⟨j0, j1, j2, (fun _ => hi), j4, j5, j6, j7, j8, j9, j10, j11, j12, j13, j14, j15, j16, e0, e1⟩
        clear HJ hpre hbx
        go_simp
        refine HC.mono ?_
        rintro e x' ⟨v85, rfl, H⟩
        exact hK _ _ ⟨u21, u22, u23, u81, _, _, _, _, u86, u87, u88, u89, u90, u91, u92, u93, u94, rfl, HN.out v85 x' H.out.2 H.out.1.is⟩
      · injection (show some _ = some o from ho) with ho
        subst ho
        have p3 : b 3 = true := hpre 3 (by decide +kernel)
        have hi : IS x u85 l2 := by obtain ⟨j0, j1, j2, j3, j4, j5, j6, j7, j8, j9, j10, j11, j12, j13, j14, j15, j16, e0, e1⟩ := HJ.out; exact j3 p3
        have HC := HT2.out u85 x hi
        have HN : Hid (∀ tv x', Below x.heap.size x x' → TS x' tv (l2.map trk) → JT2 wc so hgo sc hc bb col gap rx ry rw' rh s z l2 ys (fun j => if j = 4 then true else b j) u21 u22 u23 u81 u82 u83 u84 u85 (tv) u87 u88 u89 u90 u91 u92 u93 u94 x') := fun tv x' hb ht => by
          obtain ⟨j0, j1, j2, j3, j4, j5, j6, j7, j8, j9, j10, j11, j12, j13, j14, j15, j16, e0, e1⟩ := HJ.out.grow hb
          exact ⟨j0, j1, j2, j3, (fun _ => ht), j5, j6, j7, j8, j9, j10, j11, j12, j13, j14, j15, j16, e0, e1⟩
        clear HJ hpre hi
        go_simp
        refine HC.mono ?_
        rintro e x' ⟨tv, rfl, H⟩
        exact hK _ _ ⟨u21, u22, u23, u81, u82, u83, u84, u85, _, u87, u88, u89, u90, u91, u92, u93, u94, rfl, HN.out tv x' H.out.2 H.out.1⟩
      · injection (show some _ = some o from ho) with ho
        subst ho
        have HN : Hid (JT2 wc so hgo sc hc bb col gap rx ry rw' rh s z l2 ys (fun j => if j = 5 then true else b j) u21 u22 u23 u81 u82 u83 u84 u85 u86 (.int .i64 gap) u88 u89 u90 u91 u92 u93 u94 x) := by
          obtain ⟨j0, j1, j2, j3, j4, j5, j6, j7, j8, j9, j10, j11, j12, j13, j14, j15, j16, e0, e1⟩ := HJ.out
          exact ⟨j0, j1, j2, j3, j4, fun _ => rfl, j6, j7, j8, j9, j10, j11, j12, j13, j14, j15, j16, e0, e1⟩
        clear HJ hpre
        go_simp
        exact hK _ _ ⟨u21, u22, u23, u81, u82, u83, u84, u85, u86, _, u88, u89, u90, u91, u92, u93, u94, rfl, HN⟩
      · injection (show some _ = some o from ho) with ho
        subst ho
        have HN : Hid (JT2 wc so hgo sc hc bb col gap rx ry rw' rh s z l2 ys (fun j => if j = 6 then true else b j) u21 u22 u23 u81 u82 u83 u84 u85 u86 u87 (.pointer (some ⟨bb, 2, none⟩)) u89 u90 u91 u92 u93 u94 x) := by
          obtain ⟨j0, j1, j2, j3, j4, j5, j6, j7, j8, j9, j10, j11, j12, j13, j14, j15, j16, e0, e1⟩ := HJ.out
          exact ⟨j0, j1, j2, j3, j4, j5, fun _ => rfl, j7, j8, j9, j10, j11, j12, j13, j14, j15, j16, e0, e1⟩
        clear HJ hpre
        go_simp
        exact hK _ _ ⟨u21, u22, u23, u81, u82, u83, u84, u85, u86, u87, _, u89, u90, u91, u92, u93, u94, rfl, HN⟩
      · injection (show some _ = some o from ho) with ho
        subst ho
        have p6 : b 6 = true := hpre 6 (by decide +kernel)
        obtain rfl : u88 = .pointer (some ⟨bb, 2, none⟩) := by obtain ⟨j0, j1, j2, j3, j4, j5, j6, j7, j8, j9, j10, j11, j12, j13, j14, j15, j16, e0, e1⟩ := HJ.out; exact (j6 p6)
        have HN : Hid (JT2 wc so hgo sc hc bb col gap rx ry rw' rh s z l2 ys (fun j => if j = 7 then true else b j) u21 u22 u23 u81 u82 u83 u84 u85 u86 u87 (.pointer (some ⟨bb, 2, none⟩)) (.pointer (some ⟨bb, 3, none⟩)) u90 u91 u92 u93 u94 x) := by
          obtain ⟨j0, j1, j2, j3, j4, j5, j6, j7, j8, j9, j10, j11, j12, j13, j14, j15, j16, e0, e1⟩ := HJ.out
          exact ⟨j0, j1, j2, j3, j4, j5, j6, fun _ => rfl, j8, j9, j10, j11, j12, j13, j14, j15, j16, e0, e1⟩
        clear HJ hpre
        go_simp
        exact hK _ _ ⟨u21, u22, u23, u81, u82, u83, u84, u85, u86, u87, _, _, u90, u91, u92, u93, u94, rfl, HN⟩
      · injection (show some _ = some o from ho) with ho
        subst ho
        have p7 : b 7 = true := hpre 7 (by decide +kernel)
        obtain rfl : u89 = .pointer (some ⟨bb, 3, none⟩) := by obtain ⟨j0, j1, j2, j3, j4, j5, j6, j7, j8, j9, j10, j11, j12, j13, j14, j15, j16, e0, e1⟩ := HJ.out; exact (j7 p7)
        have c0 : x.cell? ⟨bb, 3, none⟩ = some (.int .i64 rh) := by obtain ⟨j0, j1, j2, j3, j4, j5, j6, j7, j8, j9, j10, j11, j12, j13, j14, j15, j16, e0, e1⟩ := HJ.out; rw [e1.cell]; rfl
        have HN : Hid (JT2 wc so hgo sc hc bb col gap rx ry rw' rh s z l2 ys (fun j => if j = 8 then true else b j) u21 u22 u23 u81 u82 u83 u84 u85 u86 u87 u88 (.pointer (some ⟨bb, 3, none⟩)) (.int .i64 rh) u91 u92 u93 u94 x) := by
          obtain ⟨j0, j1, j2, j3, j4, j5, j6, j7, j8, j9, j10, j11, j12, j13, j14, j15, j16, e0, e1⟩ := HJ.out
          exact ⟨j0, j1, j2, j3, j4, j5, j6, j7, fun _ => rfl, j9, j10, j11, j12, j13, j14, j15, j16, e0, e1⟩
        clear HJ hpre
        go_simp
        exact hK _ _ ⟨u21, u22, u23, u81, u82, u83, u84, u85, u86, u87, u88, _, _, u91, u92, u93, u94, rfl, HN⟩
      · injection (show some _ = some o from ho) with ho
        subst ho
        have p5 : b 5 = true := hpre 5 (by decide +kernel)
        obtain rfl : u87 = .int .i64 gap := by obtain ⟨j0, j1, j2, j3, j4, j5, j6, j7, j8, j9, j10, j11, j12, j13, j14, j15, j16, e0, e1⟩ := HJ.out; exact (j5 p5)
        have p8 : b 8 = true := hpre 8 (by decide +kernel)
        obtain rfl : u90 = .int .i64 rh := by obtain ⟨j0, j1, j2, j3, j4, j5, j6, j7, j8, j9, j10, j11, j12, j13, j14, j15, j16, e0, e1⟩ := HJ.out; exact (j8 p8)
        have p4 : b 4 = true := hpre 4 (by decide +kernel)
        have hts : TS x u86 (l2.map trk) := by obtain ⟨j0, j1, j2, j3, j4, j5, j6, j7, j8, j9, j10, j11, j12, j13, j14, j15, j16, e0, e1⟩ := HJ.out; exact j4 p4
        have HC := HR2.out _ x hts
        have HN : Hid (∀ v u x', Below x.heap.size x x' → IS x' v ys → IS x' u (bgs gap 0 ys) → JT2 wc so hgo sc hc bb col gap rx ry rw' rh s z l2 ys (fun j => if j = 9 then true else b j) u21 u22 u23 u81 u82 u83 u84 u85 u86 (.int .i64 gap) u88 u89 (.int .i64 rh) (.tuple #[v, u, .int .i64 0]) u92 u93 u94 x') := fun v u x' hb h1 h2 => by
          obtain ⟨j0, j1, j2, j3, j4, j5, j6, j7, j8, j9, j10, j11, j12, j13, j14, j15, j16, e0, e1⟩ := HJ.out.grow hb
          exact ⟨j0, j1, j2, j3, j4, j5, j6, j7, j8, (fun _ => ⟨v, u, rfl, h1, h2⟩), (fun h => absurd (hbi.symm.trans (j10 h).1) (by decide)), (fun h => absurd (hbi.symm.trans (j11 h).1) (by decide)), (fun h => absurd (hbi.symm.trans (j12 h).1) (by decide)), j13, j14, j15, j16, e0, e1⟩
        clear HJ hpre hts
        go_simp
        refine HC.mono ?_
        rintro e x' ⟨v, u, rfl, H⟩
        exact hK _ _ ⟨u21, u22, u23, u81, u82, u83, u84, u85, u86, _, u88, u89, _, _, u92, u93, u94, rfl, HN.out v u x' H.out.2.2 H.out.1 H.out.2.1⟩
      · injection (show some _ = some o from ho) with ho
        subst ho
        have p9 : b 9 = true := hpre 9 (by decide +kernel)
        have HN : Hid (JT2 wc so hgo sc hc bb col gap rx ry rw' rh s z l2 ys (fun j => if j = 10 then true else b j) u21 u22 u23 (u91) u82 u83 u84 u85 u86 u87 u88 u89 u90 u91 u92 u93 u94 x) := by
          obtain ⟨j0, j1, j2, j3, j4, j5, j6, j7, j8, j9, j10, j11, j12, j13, j14, j15, j16, e0, e1⟩ := HJ.out
          exact ⟨j0, j1, j2, j3, j4, j5, j6, j7, j8, j9, (fun _ => ⟨p9, rfl⟩), j11, j12, j13, j14, j15, j16, e0, e1⟩
        clear HJ hpre
        go_simp
        exact hK _ _ ⟨u21, u22, u23, _, u82, u83, u84, u85, u86, u87, u88, u89, u90, u91, u92, u93, u94, rfl, HN⟩
      · injection (show some _ = some o from ho) with ho
        subst ho
        have p10 : b 10 = true := hpre 10 (by decide +kernel)
        obtain ⟨p9, rfl⟩ : b 9 = true ∧ u81 = u91 := by obtain ⟨j0, j1, j2, j3, j4, j5, j6, j7, j8, j9, j10, j11, j12, j13, j14, j15, j16, e0, e1⟩ := HJ.out; exact j10 p10
        obtain ⟨v, u, rfl⟩ : ∃ v u, u81 = .tuple #[v, u, .int .i64 0] := by obtain ⟨j0, j1, j2, j3, j4, j5, j6, j7, j8, j9, j10, j11, j12, j13, j14, j15, j16, e0, e1⟩ := HJ.out; obtain ⟨v, u, e, _⟩ := j9 p9; exact ⟨v, u, e⟩
        have HN : Hid (JT2 wc so hgo sc hc bb col gap rx ry rw' rh s z l2 ys (fun j => if j = 11 then true else b j) u21 u22 u23 (.tuple #[v, u, .int .i64 0]) u82 u83 u84 u85 u86 u87 u88 u89 u90 (.tuple #[v, u, .int .i64 0]) (v) u93 u94 x) := by
          obtain ⟨j0, j1, j2, j3, j4, j5, j6, j7, j8, j9, j10, j11, j12, j13, j14, j15, j16, e0, e1⟩ := HJ.out
          exact ⟨j0, j1, j2, j3, j4, j5, j6, j7, j8, j9, j10, (fun _ => ⟨p9, rfl⟩), j12, j13, (fun h => absurd (hbi.symm.trans (j14 h).1) (by decide)), j15, j16, e0, e1⟩
        clear HJ hpre
        go_simp
        exact hK _ _ ⟨u21, u22, u23, _, u82, u83, u84, u85, u86, u87, u88, u89, u90, _, _, u93, u94, rfl, HN⟩
      · injection (show some _ = some o from ho) with ho
        subst ho
        have p10 : b 10 = true := hpre 10 (by decide +kernel)
        obtain ⟨p9, rfl⟩ : b 9 = true ∧ u81 = u91 := by obtain ⟨j0, j1, j2, j3, j4, j5, j6, j7, j8, j9, j10, j11, j12, j13, j14, j15, j16, e0, e1⟩ := HJ.out; exact j10 p10
        obtain ⟨v, u, rfl⟩ : ∃ v u, u81 = .tuple #[v, u, .int .i64 0] := by obtain ⟨j0, j1, j2, j3, j4, j5, j6, j7, j8, j9, j10, j11, j12, j13, j14, j15, j16, e0, e1⟩ := HJ.out; obtain ⟨v, u, e, _⟩ := j9 p9; exact ⟨v, u, e⟩
        have HN : Hid (JT2 wc so hgo sc hc bb col gap rx ry rw' rh s z l2 ys (fun j => if j = 12 then true else b j) u21 u22 u23 (.tuple #[v, u, .int .i64 0]) u82 u83 u84 u85 u86 u87 u88 u89 u90 (.tuple #[v, u, .int .i64 0]) u92 (u) u94 x) := by
          obtain ⟨j0, j1, j2, j3, j4, j5, j6, j7, j8, j9, j10, j11, j12, j13, j14, j15, j16, e0, e1⟩ := HJ.out
          exact ⟨j0, j1, j2, j3, j4, j5, j6, j7, j8, j9, j10, j11, (fun _ => ⟨p9, rfl⟩), j13, j14, (fun h => absurd (hbi.symm.trans (j15 h).1) (by decide)), j16, e0, e1⟩
        clear HJ hpre
        go_simp
        exact hK _ _ ⟨u21, u22, u23, _, u82, u83, u84, u85, u86, u87, u88, u89, u90, _, u92, _, u94, rfl, HN⟩
      · injection (show some _ = some o from ho) with ho
        subst ho
        have p10 : b 10 = true := hpre 10 (by decide +kernel)
        obtain ⟨p9, rfl⟩ : b 9 = true ∧ u81 = u91 := by obtain ⟨j0, j1, j2, j3, j4, j5, j6, j7, j8, j9, j10, j11, j12, j13, j14, j15, j16, e0, e1⟩ := HJ.out; exact j10 p10
        obtain ⟨v, u, rfl⟩ : ∃ v u, u81 = .tuple #[v, u, .int .i64 0] := by obtain ⟨j0, j1, j2, j3, j4, j5, j6, j7, j8, j9, j10, j11, j12, j13, j14, j15, j16, e0, e1⟩ := HJ.out; obtain ⟨v, u, e, _⟩ := j9 p9; exact ⟨v, u, e⟩
        have HN : Hid (JT2 wc so hgo sc hc bb col gap rx ry rw' rh s z l2 ys (fun j => if j = 13 then true else b j) u21 u22 u23 (.tuple #[v, u, .int .i64 0]) u82 u83 u84 u85 u86 u87 u88 u89 u90 (.tuple #[v, u, .int .i64 0]) u92 u93 (.int .i64 0) x) := by
          obtain ⟨j0, j1, j2, j3, j4, j5, j6, j7, j8, j9, j10, j11, j12, j13, j14, j15, j16, e0, e1⟩ := HJ.out
          exact ⟨j0, j1, j2, j3, j4, j5, j6, j7, j8, j9, j10, j11, j12, (fun _ => rfl), j14, j15, j16, e0, e1⟩
        clear HJ hpre
        go_simp
        exact hK _ _ ⟨u21, u22, u23, _, u82, u83, u84, u85, u86, u87, u88, u89, u90, _, u92, u93, _, rfl, HN⟩
      · injection (show some _ = some o from ho) with ho
        subst ho
        have pp : b 11 = true := hpre 11 (by decide +kernel)
        have HN : Hid (JT2 wc so hgo sc hc bb col gap rx ry rw' rh s z l2 ys (fun j => if j = 14 then true else b j) (u92) u22 u23 u81 u82 u83 u84 u85 u86 u87 u88 u89 u90 u91 u92 u93 u94 x) := by
          obtain ⟨j0, j1, j2, j3, j4, j5, j6, j7, j8, j9, j10, j11, j12, j13, j14, j15, j16, e0, e1⟩ := HJ.out
          exact ⟨j0, j1, j2, j3, j4, j5, j6, j7, j8, j9, j10, j11, j12, j13, (fun _ => ⟨pp, rfl⟩), j15, j16, e0, e1⟩
        clear HJ hpre
        go_simp
        exact hK _ _ ⟨_, u22, u23, u81, u82, u83, u84, u85, u86, u87, u88, u89, u90, u91, u92, u93, u94, rfl, HN⟩
      · injection (show some _ = some o from ho) with ho
        subst ho
        have pp : b 12 = true := hpre 12 (by decide +kernel)
        have HN : Hid (JT2 wc so hgo sc hc bb col gap rx ry rw' rh s z l2 ys (fun j => if j = 15 then true else b j) u21 (u93) u23 u81 u82 u83 u84 u85 u86 u87 u88 u89 u90 u91 u92 u93 u94 x) := by
          obtain ⟨j0, j1, j2, j3, j4, j5, j6, j7, j8, j9, j10, j11, j12, j13, j14, j15, j16, e0, e1⟩ := HJ.out
          exact ⟨j0, j1, j2, j3, j4, j5, j6, j7, j8, j9, j10, j11, j12, j13, j14, (fun _ => ⟨pp, rfl⟩), j16, e0, e1⟩
        clear HJ hpre
        go_simp
        exact hK _ _ ⟨u21, _, u23, u81, u82, u83, u84, u85, u86, u87, u88, u89, u90, u91, u92, u93, u94, rfl, HN⟩
      · injection (show some _ = some o from ho) with ho
        subst ho
        have p13 : b 13 = true := hpre 13 (by decide +kernel)
        obtain rfl : u94 = .int .i64 0 := by obtain ⟨j0, j1, j2, j3, j4, j5, j6, j7, j8, j9, j10, j11, j12, j13, j14, j15, j16, e0, e1⟩ := HJ.out; exact (j13 p13)
        have HN : Hid (JT2 wc so hgo sc hc bb col gap rx ry rw' rh s z l2 ys (fun j => if j = 16 then true else b j) u21 u22 (.int .i64 0) u81 u82 u83 u84 u85 u86 u87 u88 u89 u90 u91 u92 u93 (.int .i64 0) x) := by
          obtain ⟨j0, j1, j2, j3, j4, j5, j6, j7, j8, j9, j10, j11, j12, j13, j14, j15, j16, e0, e1⟩ := HJ.out
          exact ⟨j0, j1, j2, j3, j4, j5, j6, j7, j8, j9, j10, j11, j12, j13, j14, j15, fun _ => rfl, e0, e1⟩
        clear HJ hpre
        go_simp
        exact hK _ _ ⟨u21, u22, _, u81, u82, u83, u84, u85, u86, u87, u88, u89, u90, u91, u92, u93, _, rfl, HN⟩
    · intro b a x hI hall
      obtain ⟨u21, u22, u23, u81, u82, u83, u84, u85, u86, u87, u88, u89, u90, u91, u92, u93, u94, rfl, HJ⟩ := hI
      have hall' : ∀ i, i < 17 → b i = true := fun i hi => hall i (by simpa using hi)
      obtain ⟨j0, j1, j2, j3, j4, j5, j6, j7, j8, j9, j10, j11, j12, j13, j14, j15, j16, e0, e1⟩ := HJ.out
      have HF : Hid (Below wc.heap.size wc x ∧ IS x u21 ys ∧ IS x u22 (bgs gap 0 ys)) := by
        obtain ⟨v, u, e, o1, o2⟩ := j9 (hall' 9 (by omega))
        have e1' := (j11 (hall' 11 (by omega))).2
        have e2' := (j12 (hall' 12 (by omega))).2
        rw [e] at e1' e2'
        rw [(j14 (hall' 14 (by omega))).2, (j15 (hall' 15 (by omega))).2, e1', e2']
        exact ⟨e0, o1, o2⟩
      clear HJ hall hall' j0 j1 j2 j3 j4 j5 j6 j7 j8 j9 j10 j11 j12 j13 j14 j15 j16 e0 e1
      go_wp2_with fail
      go_meet
      exact HF
  case rest =>
  have HB7 : Hid (Below w.heap.size w wc ∧ Bk wc bb #[.int .i64 rx, .int .i64 ry, .int .i64 rw', .int .i64 rh] 29 ∧ KS 2 fP wc (.slice po s.length pc) C ∧ IS wc (.slice qo s.length qc) (wdL C) ∧ IS wc u18 xs ∧ IS wc u19 (bgs gap 0 xs) ∧ IS wc u21 ys ∧ IS wc u22 (bgs gap 0 ys)) := by
    obtain ⟨a1, a2, a3, a4, a5, a6, a7, a8⟩ := HB6.out
    obtain ⟨c1, c2, c3⟩ := Hid.out hcut
    exact ⟨a1.trans (c1.mono a1.size), a3.below c1, a5.below c1, a6.below c1, a7.below c1, a8.below c1, c2, c3⟩
  clear HB6
  have hsb : s.length ≤ 1024 := hl1
  have hxl : xs.length ≤ 1024 := HXb.out.2.2.1
  obtain ⟨j0, ki, kz0, kz1, kz2⟩ := info_parts info_rectY
  have HJ : Hid (Tryz.prog.info? 29 = some j0 ∧ j0.zero = some (.agg #[.int .i64 0, .int .i64 0, .int .i64 0, .int .i64 0]) ∧ j0.size = 4 ∧ j0.bytes = 32) := ⟨ki, kz0, kz1, kz2⟩
  have HRR : Hid (RE = (if rs.all (fun q => mayB q.x q.y q.w q.h) = true then 0 else 9) ∧ RL = if RE = 0 then rs else []) := ⟨hRE, hRL⟩
  have HX1 : Hid ((∀ y ∈ bgs gap 0 xs, 0 ≤ y ∧ y ≤ 100000000000) ∧ (∀ y ∈ bgs gap 0 ys, 0 ≤ y ∧ y ≤ 100000000000) ∧ (∀ y ∈ xs, 0 ≤ y ∧ y ≤ 100000000000)) := by
    obtain ⟨a1, a2, a3, a4⟩ := HXb.out
    exact ⟨bgs_mem hgap a1 a3, bgs_mem hgap a2 a4, fun y hy => by have := a1 y hy; omega⟩
  have HMay : Hid (∀ a b c d W, Calls Tryz.prog 47 #[.agg #[.int .i64 a, .int .i64 b, .int .i64 c, .int .i64 d]] W fun e w' => e = .returned (.bool (mayB a b c d)) ∧ Below W.heap.size W w') := fun a b c d W => rmay_any a b c d W
  clear ki kz0 kz1 kz2 hRE hRL hgap hl1 HXb
  go_upto_region 13 with fail
  go_loopw [24, 25] (fun o i wr => ∃ k : Nat, k ≤ s.length ∧ i = .int .i64 k ∧ Hid (OwK 29 4 fR wc.heap.size wr o (rs.take k) ∧ Below wc.heap.size wc wr ∧ (rs.take k).all (fun q => mayB q.x q.y q.w q.h) = true)) (fun _ i _ => s.length - (intOf i).toNat)
  case atStart => exact ⟨0, Nat.zero_le _, rfl, OwK.nil _ _ _ _ _, Below.refl _ _, rfl⟩
  case round =>
    obtain ⟨k, hk, rfl, HK⟩ := hrel
    by_cases hlt : k < s.length
    · have ik : (k : Int) < (s.length : Int) := by omega
      have hlc : k < C.length := by rw [HCl.out]; exact hlt
      obtain ⟨g1, g2, g3⟩ := HCel.out k hlc
      obtain ⟨pb, pf, e1, hpl, hpat⟩ : ∃ g o, po = some ⟨g, o, none⟩ ∧ g < wc.heap.size ∧ ∀ j, j < 2 → wc.cell? ⟨g, o + k * 2 + j, none⟩ = some (.int .i64 ((fP C[k]).getD j 0)) := by
        obtain ⟨_, _, e, _, h⟩ := HB7.out.2.2.1
        obtain ⟨g, o, e2, h1, h2⟩ := h (by omega)
        injection e with e _ _
        exact ⟨g, o, e.trans e2, h1, h2 k hlc⟩
      subst e1
      obtain ⟨qb, qf, e1, hql, hqat⟩ : ∃ g o, qo = some ⟨g, o, none⟩ ∧ g < wc.heap.size ∧ wc.cell? ⟨g, o + k, none⟩ = some (.int .i64 (C[k].k : Nat)) := by
        obtain ⟨_, _, e, _, h⟩ := HB7.out.2.2.2.1
        obtain ⟨g, o, e2, h1, h2⟩ := h (by rw [wdL_len]; omega)
        injection e with e _ _
        refine ⟨g, o, e.trans e2, h1, ?_⟩
        have := h2 k (by rw [wdL_len]; exact hlc)
        rw [this]
        simp [wdL]
      subst e1
      have HCk : Hid (C[k]? = some C[k]) := List.getElem?_eq_getElem hlc
      generalize C[k] = c at *
      obtain ⟨q, hq⟩ : ∃ q, c.x + c.k = q + 1 := ⟨c.x + c.k - 1, by omega⟩
      have hll : (bgs gap 0 xs).length = xs.length := bgs_len gap xs 0
      have hly : (bgs gap 0 ys).length = ys.length := bgs_len gap ys 0
      obtain ⟨b1, b2, b3⟩ := HX1.out
      have hgd : ∀ {l : List Int} {i : Nat} {M : Int}, i < l.length → (∀ y ∈ l, 0 ≤ y ∧ y ≤ M) → 0 ≤ l.getD i 0 ∧ l.getD i 0 ≤ M := fun {l i M} hi h => by
        rw [List.getD_eq_getElem?_getD, List.getElem?_eq_getElem hi]
        exact h _ (List.getElem_mem hi)
      have n1 := hgd (i := c.x) (by rw [hll]; omega) b1
      have n2 := hgd (i := q) (by rw [hll]; omega) b1
      have n3 := hgd (i := c.y) (by rw [hly]; omega) b2
      have n4 := hgd (i := q) (by omega) b3
      obtain ⟨lg, lo1, lc, el, ll, cl1⟩ := HB7.out.2.2.2.2.2.1.getD (i := c.x) (by rw [hll]; omega)
      obtain ⟨lg', lo', lc', el', _, cl2⟩ := HB7.out.2.2.2.2.2.1.getD (i := q) (by rw [hll]; omega)
      rw [el] at el'
      injection el' with e1 _ e3
      injection e1 with e1
      injection e1 with e1 e2 _
      subst e1 e2 e3
      obtain ⟨tg, th, tc, et, lt, ct⟩ := HB7.out.2.2.2.2.2.2.2.getD (i := c.y) (by rw [hly]; exact g3)
      obtain ⟨dg, dof, dc, ew, lw, cw⟩ := HB7.out.2.2.2.2.1.getD (i := q) (by omega)
      obtain ⟨hg, hh, hcp, eh, lh, ch⟩ := HB7.out.2.2.2.2.2.2.1.getD (i := c.y) g3
      rw [hll] at el
      rw [hly] at et
      have HBb : Hid (Bk wc bb #[.int .i64 rx, .int .i64 ry, .int .i64 rw', .int .i64 rh] 29 ∧ Below w.heap.size w wc) := ⟨HB7.out.2.1, HB7.out.1⟩
      clear HB7
      subst el et ew eh
      have HRk : Hid (rs[k]? = some ⟨rx + (bgs gap 0 xs).getD c.x 0, ry + (bgs gap 0 ys).getD c.y 0, (bgs gap 0 xs).getD q 0 + xs.getD q 0 - (bgs gap 0 xs).getD c.x 0, ys.getD c.y 0⟩) := by
        have hq' : c.x + c.k - 1 = q := by omega
        unfold Hid
        rw [HRc.out, List.getElem?_map, HCk.out, Option.map_some]
        unfold rcG beg ext
        rw [hq']
      clear b1 b2 b3 hll hly hgd HCk
      have iq : (q : Int) < (xs.length : Int) := by omega
      have ix : (c.x : Int) < (xs.length : Int) := by omega
      have iy : (c.y : Int) < (ys.length : Int) := by omega
      have iqq : (c.x : Int) + (c.k : Int) = (q : Int) + 1 := by omega
      generalize (bgs gap 0 xs).getD c.x 0 = A at *
      generalize (bgs gap 0 ys).getD c.y 0 = B at *
      generalize (bgs gap 0 xs).getD q 0 = E at *
      generalize xs.getD q 0 = D at *
      generalize ys.getD c.y 0 = F at *
      have HT : Hid (rs.take (k + 1) = rs.take k ++ [⟨rx + A, ry + B, E + D - A, F⟩] ∧ (mayB (rx + A) (ry + B) (E + D - A) F = true → (rs.take (k + 1)).all (fun q => mayB q.x q.y q.w q.h) = true) ∧ (mayB (rx + A) (ry + B) (E + D - A) F = false → RE = 9 ∧ RL = [])) := by
        have t1 : rs.take (k + 1) = rs.take k ++ [⟨rx + A, ry + B, E + D - A, F⟩] := by rw [List.take_add_one, HRk.out]; rfl
        refine ⟨t1, fun h => ?_, fun h => ?_⟩
        · rw [t1, List.all_append, HK.out.2.2]
          simp [h]
        · have h9 : RE = 9 := by
            rw [HRR.out.1, if_neg]
            intro ha
            have := List.all_eq_true.1 ha _ (List.mem_of_getElem? HRk.out)
            rw [show mayB (rx + A) (ry + B) (E + D - A) F = true from this] at h
            cases h
          exact ⟨h9, by rw [HRR.out.2, if_neg (by rw [h9]; decide)]⟩
      have hw0 : IntKind.i64.wrap ((c.x : Int) + (c.k : Int)) = (q : Int) + 1 := by rw [IntKind.wrap_i64]; omega
      have hw1 : IntKind.i64.wrap ((q : Int) + 1 - 1) = (q : Int) := by rw [IntKind.wrap_i64]; omega
      have hw2 : IntKind.i64.wrap (rx + A) = rx + A := by rw [IntKind.wrap_i64]; omega
      have hw3 : IntKind.i64.wrap (ry + B) = ry + B := by rw [IntKind.wrap_i64]; omega
      have hw4 : IntKind.i64.wrap (E + D) = E + D := by rw [IntKind.wrap_i64]; omega
      have hw5 : IntKind.i64.wrap (E + D - A) = E + D - A := by rw [IntKind.wrap_i64]; omega
      have hw6 : IntKind.i64.wrap ((k : Int) + 1) = (k : Int) + 1 := by rw [IntKind.wrap_i64]; omega
      have HRl : Hid ((rs.take k).length = k) := by
        unfold Hid
        rw [List.length_take, HRc.out, List.length_map, HCl.out]
        omega
      have HX : Hid (∀ W, Below wc.heap.size wc W → W.cell? ⟨pb, pf + k * 2, none⟩ = some (.int .i64 (c.x : Nat)) ∧ W.cell? ⟨pb, pf + k * 2 + 1, none⟩ = some (.int .i64 (c.y : Nat)) ∧ W.cell? ⟨qb, qf + k, none⟩ = some (.int .i64 (c.k : Nat)) ∧ W.cell? ⟨lg, lo1 + c.x, none⟩ = some (.int .i64 A) ∧ W.cell? ⟨lg, lo1 + q, none⟩ = some (.int .i64 E) ∧ W.cell? ⟨tg, th + c.y, none⟩ = some (.int .i64 B) ∧ W.cell? ⟨dg, dof + q, none⟩ = some (.int .i64 D) ∧ W.cell? ⟨hg, hh + c.y, none⟩ = some (.int .i64 F) ∧ W.cell? ⟨bb, 0, none⟩ = some (.int .i64 rx) ∧ W.cell? ⟨bb, 1, none⟩ = some (.int .i64 ry)) := fun W hb =>
        ⟨(hb.cell (p := ⟨pb, pf + k * 2, none⟩) hpl).trans (hpat 0 (by omega)), (hb.cell (p := ⟨pb, pf + k * 2 + 1, none⟩) hpl).trans (hpat 1 (by omega)), (hb.cell (p := ⟨qb, qf + k, none⟩) hql).trans hqat, (hb.cell (p := ⟨lg, lo1 + c.x, none⟩) ll).trans cl1, (hb.cell (p := ⟨lg, lo1 + q, none⟩) ll).trans cl2, (hb.cell (p := ⟨tg, th + c.y, none⟩) lt).trans ct, (hb.cell (p := ⟨dg, dof + q, none⟩) lw).trans cw, (hb.cell (p := ⟨hg, hh + c.y, none⟩) lh).trans ch, by rw [(HBb.out.1.below hb).cell]; rfl, by rw [(HBb.out.1.below hb).cell]; rfl⟩
      have HD : Hid (∀ n, OwK 29 4 fR wc.heap.size (wr.drewN n) u24 (rs.take k) ∧ Below wc.heap.size wc (wr.drewN n)) := fun n => ⟨row_below HK.out.1 (below_drewK (Below.refl _ _)), below_drewK HK.out.2.1⟩
      obtain ⟨x0, x1, x2, -, -, -, -, -, -, -⟩ := HX.out wr HK.out.2.1
      clear hpat hqat cl1 cl2 ct cw ch HRk HK g1 g2 g3 hpl hql ll lt lw lh hmb n1 n2 n3 n4 HRc HCel HX1
      generalize c.x = cx at *
      generalize c.y = cy at *
      generalize c.k = ck at *
      go_upto_region 15 with fail
      go_quiet (fail)
      have HD2 := HD.out nq
      have HE : Hid (OwK 29 4 fR wc.heap.size (wr.drewN nq) u24 (rs.take k) ∧ Below wc.heap.size wc (wr.drewN nq)) := HD2
      clear HD HD2 x0 x1 x2
      generalize wr.drewN nq = W2 at *
      obtain ⟨x0, x1, x2, x3, x4, x5, x6, x7, x8, x9⟩ := HX.out W2 HE.out.2
      go_upto_region 18 with fail
      clear x0 x1 x2 x3 x4 x5 x6 x7 x8 x9
      refine R4.wp_region_lit 32 1 1 (fun _ b => .pointer (some ⟨b, 0, none⟩)) (fun _ => .cells #[.int .i64 0, .int .i64 0, .int .i64 0, .int .i64 0] 29) [29] (by kernel_rfl) (by kernel_rfl) rfl ?_ rfl ?_
      · intro k hk
        have hc : k = 0 := by omega
        subst hc; rfl
      apply Exists.intro
      refine ⟨fun bs ne => ?_, ?_, ?_⟩
      · have HY : Hid (∀ u : Gb W2 bs, Below wc.heap.size wc u.wd) := fun u => HE.out.2.trans (u.below.mono HE.out.2.size)
        have d0 := fun u : Gb W2 bs => (HX.out u.wd (HY.out u)).2.1
        have d1 := fun u : Gb W2 bs => (HX.out u.wd (HY.out u)).2.2.2.2.1
        have d2 := fun u : Gb W2 bs => (HX.out u.wd (HY.out u)).2.2.2.2.2.2.1
        have d3 := fun u : Gb W2 bs => (HX.out u.wd (HY.out u)).2.2.2.2.2.2.2.1
        have d4 := fun u : Gb W2 bs => (HX.out u.wd (HY.out u)).2.2.2.2.2.2.2.2.1
        have d5 := fun u : Gb W2 bs => (HX.out u.wd (HY.out u)).2.2.2.2.2.2.2.2.2
        simp only [List.take_succ_cons, List.take_zero]
        repeat (go_big_quiet_step (fail))
        exact wpQuiet_nil rfl
      · intro i h1 h2
        have hc : i = 32 := by omega
        subst hc
        exact ⟨_, rfl, rfl, fun _ => by kernel_rfl⟩
      intro bl wx hbl hlo' _
      obtain ⟨q3, q4⟩ := hlo' 32 (by omega) (by omega)
      simp only [R4.layL]
      generalize bl 32 = g0 at *
      clear hlo'
      have k0 : Bk wx g0 #[.int .i64 0, .int .i64 0, .int .i64 0, .int .i64 0] 29 := q4
      obtain ⟨c1, f1, l1⟩ := heap_cells q4
      have k4 := (((k0.put 0 (.int .i64 (rx + A))).put 1 (.int .i64 (ry + B))).put 2 (.int .i64 (E + D - A))).put 3 (.int .i64 F)
      have b4 := set4_below hbl q3 (.int .i64 (rx + A)) (.int .i64 (ry + B)) (.int .i64 (E + D - A)) (.int .i64 F)
      clear k0
      refine wpAny_one 33 (by kernel_rfl) rfl ?_
      intro K hK
      go_simp
      refine hK _ _ ?_
      clear hK K c1 f1 l1 q4
      refine wpAny_done (by kernel_rfl) ?_ _
      have HG : Hid (Bk ((((wx.setCell ⟨g0, 0, none⟩ (.int .i64 (rx + A))).setCell ⟨g0, 1, none⟩ (.int .i64 (ry + B))).setCell ⟨g0, 2, none⟩ (.int .i64 (E + D - A))).setCell ⟨g0, 3, none⟩ (.int .i64 F)) g0 #[.int .i64 (rx + A), .int .i64 (ry + B), .int .i64 (E + D - A), .int .i64 F] 29 ∧ OwK 29 4 fR wc.heap.size ((((wx.setCell ⟨g0, 0, none⟩ (.int .i64 (rx + A))).setCell ⟨g0, 1, none⟩ (.int .i64 (ry + B))).setCell ⟨g0, 2, none⟩ (.int .i64 (E + D - A))).setCell ⟨g0, 3, none⟩ (.int .i64 F)) u24 (rs.take k) ∧ Below wc.heap.size wc ((((wx.setCell ⟨g0, 0, none⟩ (.int .i64 (rx + A))).setCell ⟨g0, 1, none⟩ (.int .i64 (ry + B))).setCell ⟨g0, 2, none⟩ (.int .i64 (E + D - A))).setCell ⟨g0, 3, none⟩ (.int .i64 F))) := ⟨k4, row_below HE.out.1 b4, HE.out.2.trans (b4.mono HE.out.2.size)⟩
      clear k4 b4 q3 hbl HE HX
      generalize ((((wx.setCell ⟨g0, 0, none⟩ (.int .i64 (rx + A))).setCell ⟨g0, 1, none⟩ (.int .i64 (ry + B))).setCell ⟨g0, 2, none⟩ (.int .i64 (E + D - A))).setCell ⟨g0, 3, none⟩ (.int .i64 F)) = W4 at *
      clear wx
      have y0 : W4.cell? ⟨g0, 0, none⟩ = some (.int .i64 (rx + A)) := by rw [HG.out.1.cell]; rfl
      have y1 : W4.cell? ⟨g0, 1, none⟩ = some (.int .i64 (ry + B)) := by rw [HG.out.1.cell]; rfl
      have y2 : W4.cell? ⟨g0, 2, none⟩ = some (.int .i64 (E + D - A)) := by rw [HG.out.1.cell]; rfl
      have y3 : W4.cell? ⟨g0, 3, none⟩ = some (.int .i64 F) := by rw [HG.out.1.cell]; rfl
      have HM := HMay.out (rx + A) (ry + B) (E + D - A) F
      generalize hR0 : rx + A = R0 at *
      generalize hR1 : ry + B = R1 at *
      generalize hR2 : E + D - A = R2 at *
      generalize hMB : mayB R0 R1 R2 F = MB at *
      have HM' : Hid (∀ W, Calls Tryz.prog 47 #[.agg #[.int .i64 R0, .int .i64 R1, .int .i64 R2, .int .i64 F]] W fun e w' => e = .returned (.bool MB) ∧ Below W.heap.size W w') := HM
      clear HM HMay hR0 hR1 hR2 hMB hw0 hw1 hw2 hw3 hw4 hw5
      go_wp2_with fail
      refine (HM'.out _).mono ?_
      rintro e w7 ⟨rfl, hb7⟩
      have HG7 : Hid (Bk w7 g0 #[.int .i64 R0, .int .i64 R1, .int .i64 R2, .int .i64 F] 29 ∧ OwK 29 4 fR wc.heap.size w7 u24 (rs.take k) ∧ Below wc.heap.size wc w7) := ⟨HG.out.1.below hb7, row_below HG.out.2.1 hb7, HG.out.2.2.trans (hb7.mono HG.out.2.2.size)⟩
      clear HG y0 y1 y2 y3 hb7 HM'
      cases MB with
      | false =>
        obtain ⟨r9, r8⟩ := HT.out.2.2 rfl
        subst r9 r8
        go_wp2_with fail
        go_ret2
        exact ⟨_, rfl, OwK.nil _ _ _ _ _, HBb.out.2.trans (HG7.out.2.2.mono HBb.out.2.size)⟩
      | true =>
        have y0 : w7.cell? ⟨g0, 0, none⟩ = some (.int .i64 R0) := by rw [HG7.out.1.cell]; rfl
        have y1 : w7.cell? ⟨g0, 1, none⟩ = some (.int .i64 R1) := by rw [HG7.out.1.cell]; rfl
        have y2 : w7.cell? ⟨g0, 2, none⟩ = some (.int .i64 R2) := by rw [HG7.out.1.cell]; rfl
        have y3 : w7.cell? ⟨g0, 3, none⟩ = some (.int .i64 F) := by rw [HG7.out.1.cell]; rfl
        have ho : w7.ownsRow wc.heap.size 29 4 u24 k (flatK fR (rs.take k)) := by have h := HG7.out.2.1; unfold OwK at h; rwa [HRl.out] at h
        have HA : Hid (∀ o, (w7.alloc o).ownsRow wc.heap.size 29 4 u24 k (flatK fR (rs.take k)) ∧ wc.heap.size ≤ (w7.alloc o).heap.size) := fun o => ⟨row_below ho ((Below.refl _ _).alloc (Nat.le_refl _) _), by have := HG7.out.2.2.size; simp; omega⟩
        have HB : Hid (Below wc.heap.size wc w7) := HG7.out.2.2
        have hc3 : Hid (k + 1 ≤ maxLen) := by unfold Hid maxLen; omega
        have hc4 : Hid ((k + 1) * 32 ≤ 140737488355328) := by unfold Hid; omega
        obtain ⟨ki, kz0, kz1, kz2⟩ := HJ.out
        clear HG7 ho
        go_wp2_with (at_builtin; refine wpList_append_lies _ rfl _ _ 37 rfl wc.heap.size 29 j0 (.agg #[.int .i64 0, .int .i64 0, .int .i64 0, .int .i64 0]) 4 32 Tryz.underlying37 ki kz0 kz1 kz2 rfl (by decide) u24 k (flatK fR (rs.take k)) rfl (HA.out _).1 _ 1 1 [.int .i64 R0, .int .i64 R1, .int .i64 R2, .int .i64 F] rfl rfl (cell_bk4Y (Bk.new _ _ _)) (one4Y _ _ _ _) (by decide) hc3.out hc4.out (HA.out _).2 _ rfl ?_)
        intro g4 cap4 w4 hown' hgrow _ _
        have H4 : Hid (OwK 29 4 fR wc.heap.size w4 (.slice (some ⟨g4, 0, none⟩) (k + 1) cap4) (rs.take (k + 1)) ∧ Below wc.heap.size wc w4 ∧ (rs.take (k + 1)).all (fun q => mayB q.x q.y q.w q.h) = true) := by
          have b1 : Below w7.heap.size w7 (w7.alloc (.cells #[.int .i64 R0, .int .i64 R1, .int .i64 R2, .int .i64 F] 29)) := (Below.refl _ _).alloc (Nat.le_refl _) _
          refine ⟨?_, app_below (HB.out.trans (b1.mono HB.out.size)) (HA.out _).1 (Nat.le_refl _) hgrow, HT.out.2.1 trivial⟩
          rw [HT.out.1]
          exact OwK.snoc (a := (⟨R0, R1, R2, F⟩ : Rc)) (by rw [HRl.out]) hown'
        clear hown' hgrow HA HB ki kz0 kz1 kz2 y0 y1 y2 y3
        go_wp2
        exact ⟨⟨k + 1, by omega, by go_num, H4⟩, by simp [intOf]; omega⟩
    · obtain rfl : k = s.length := by omega
      have HF : Hid (OwK 29 4 fR w.heap.size wr u24 RL ∧ Below w.heap.size w wr ∧ RE = 0) := by
        have hl : rs.length = s.length := by rw [HRc.out, List.length_map, HCl.out]
        obtain ⟨a1, a2, a3⟩ := HK.out
        rw [← hl, List.take_length] at a1 a3
        have h0 : RE = 0 := by rw [HRR.out.1, if_pos a3]
        have hrl : RL = rs := by rw [HRR.out.2, if_pos h0]
        have b7 := HB7.out.1
        rw [hrl]
        exact ⟨a1.weaken b7.size, b7.trans (a2.mono b7.size), h0⟩
      clear HK HB7
      go_wp2_with fail
      go_ret2
      exact ⟨u24, by rw [HF.out.2.2]; rfl, HF.out.1, HF.out.2.1⟩

end Go.Proofs.YthnhcphkpffkfaaGreat
