/-
  The statements' own examples: alive answers true.
-/
import Derived.Test.YtagkbpceiedikaaGR
import Derived.Test.YtagkbpceiedikaaReg4
namespace Go.Proofs.Ytagkbpceiedikaa
open Go.RowKit Go.Sort Go.Shelf

set_option maxHeartbeats 1000000 in
theorem rect_any (x y n m : Int) (w : World) : Calls Try.prog 17 #[.int .i64 x, .int .i64 y, .int .i64 n, .int .i64 m] w fun e w' => e = .returned (.agg #[.int .i64 x, .int .i64 y, .int .i64 n, .int .i64 m]) ∧ Below w.heap.size w w' := by
  go_enter Try.func17, Try.ntmps17
  obtain ⟨c0, c1, c2, c3⟩ := (Bk.new w #[.int .i64 x, .int .i64 y, .int .i64 n, .int .i64 m] 35).at4
  go_wp2
  exact bodyPost_ret (v := .agg #[.int .i64 x, .int .i64 y, .int .i64 n, .int .i64 m]) (by simp [results, Try.results17, go_sem, c0, c1, c2, c3]) rfl ⟨rfl, (Below.refl _ w).alloc (Nat.le_refl _) _⟩

def exA : List Rc := [⟨0, 0, 2, 2⟩, ⟨1, 1, 2, 2⟩]
def exF : List Rc := [⟨0, 0, 2, 1⟩, ⟨0, 1, 3, 1⟩, ⟨1, 2, 2, 1⟩]
theorem ex_of : ansL (lisE exA) (formF false exA []) = exF ∧ ansE (lisE exA) (formF false exA []) = 0 := ⟨(sameB_iff _ _).1 (by decide +kernel), by decide +kernel⟩
def exL : List Rc := [⟨0, 0, 3, 1⟩, ⟨0, 1, 1, 1⟩, ⟨2, 1, 1, 1⟩, ⟨0, 2, 3, 1⟩]
theorem ex_less : ansL (twoE [⟨0, 0, 3, 3⟩] [⟨1, 1, 1, 1⟩]) (formF false [⟨0, 0, 3, 3⟩] [⟨1, 1, 1, 1⟩]) = exL ∧ ansE (twoE [⟨0, 0, 3, 3⟩] [⟨1, 1, 1, 1⟩]) (formF false [⟨0, 0, 3, 3⟩] [⟨1, 1, 1, 1⟩]) = 0 := ⟨(sameB_iff _ _).1 (by decide +kernel), by decide +kernel⟩
theorem ex_area : areA exF = 7 ∧ lisE exF = 0 := by decide +kernel
theorem ex_bound : bouR [⟨0, 0, 1, 1⟩, ⟨4, 5, 2, 1⟩] = ⟨0, 0, 6, 6⟩ ∧ lisE [⟨0, 0, 1, 1⟩, ⟨4, 5, 2, 1⟩] = 0 := ⟨rc_ext (by decide +kernel), by decide +kernel⟩
theorem ex_same : samR [⟨0, 0, 2, 1⟩] [⟨0, 0, 1, 1⟩, ⟨1, 0, 1, 1⟩] = true ∧ twoE [⟨0, 0, 2, 1⟩] [⟨0, 0, 1, 1⟩, ⟨1, 0, 1, 1⟩] = 0 := by decide +kernel
theorem ex_has : (decide (lisE exF = 0) && hasC exF 2 2) = true := by decide +kernel
theorem ex_chk : chkE exF = 0 ∧ chkE [⟨0, 0, -1, 2⟩] = 5 := by decide +kernel
theorem i64s_of {l : List Rc} (h : (l.all fun r => decide (-1000000 ≤ r.x ∧ r.x ≤ 1000000 ∧ -1000000 ≤ r.y ∧ r.y ≤ 1000000)) = true) : I64s l := by
  intro r hr
  have := of_decide_eq_true (List.all_eq_true.1 h r hr)
  unfold I64
  omega
/-- A list of rectangles that was written out. -/
theorem lsr_lit {w : World} {g : Nat} {l : List Rc} (h : Bk w g (flat l).toArray 35) : LsR w (.slice (some ⟨g, 0, none⟩) l.length l.length) l := by
  refine ⟨_, _, rfl, Nat.le_refl _, fun _ => ⟨g, 0, rfl, h.lt, fun i hi => ?_⟩⟩
  obtain ⟨f0, f1, f2, f3⟩ := flat_at l i hi
  rw [Nat.zero_add]
  refine ⟨?_, ?_, ?_, ?_⟩
  · rw [h.cell]; simpa using f0
  · rw [h.cell]; simpa using f1
  · rw [h.cell]; simpa using f2
  · rw [h.cell]; simpa using f3

theorem lit_new (l : List Rc) (W : World) : LsR (W.alloc (.cells (flat l).toArray 35)) (.slice (some ⟨W.heap.size, 0, none⟩) l.length l.length) l := lsr_lit (Bk.new _ _ _)
theorem lsr_cells {w : World} {g o n cap : Nat} {l : List Rc} (h : LsR w (.slice (some ⟨g, o, none⟩) n cap) l) (hp : 0 < l.length) : g < w.heap.size ∧ ∀ i (h : i < l.length), RcAt w g (o + i * 4) l[i] := by
  obtain ⟨oa, c, e, _, hg⟩ := h
  injection e with e1 _ _
  obtain ⟨g', o', e2, h1, h2⟩ := hg hp
  rw [← e1] at e2
  injection e2 with e2
  injection e2 with e3 e4 _
  subst e3 e4
  exact ⟨h1, h2⟩

set_option maxRecDepth 20000 in
set_option maxHeartbeats 16000000 in
theorem alive_any (w : World) : Calls Try.prog 9 #[] w fun e w' => e = .returned (.bool true) ∧ Below w.heap.size w w' := by
  have H0 : Hid (Below w.heap.size w w) := Below.refl _ _
  go_enter Try.func9, Try.ntmps9
  go_wp2_with fail
  refine (rect_any 0 0 2 2 _).mono ?_
  rintro e w1 ⟨rfl, hb⟩
  have H1 : Hid (Below w.heap.size w w1) := H0.out.trans (hb.mono H0.out.size)
  clear hb
  go_wp2_with fail
  refine (rect_any 1 1 2 2 _).mono ?_
  rintro e w2 ⟨rfl, hb⟩
  have H2 : Hid (Below w.heap.size w w2) := H1.out.trans (hb.mono H1.out.size)
  clear hb
  have hb : Below w2.heap.size w2 (w2.alloc (.cells #[.int .i64 0, .int .i64 0, .int .i64 2, .int .i64 2, .int .i64 1, .int .i64 1, .int .i64 2, .int .i64 2] 35)) := (Below.refl _ _).alloc (Nat.le_refl _) _
  have H3 : Hid (Below w.heap.size w (w2.alloc (.cells #[.int .i64 0, .int .i64 0, .int .i64 2, .int .i64 2, .int .i64 1, .int .i64 1, .int .i64 2, .int .i64 2] 35)) ∧ LsR (w2.alloc (.cells #[.int .i64 0, .int .i64 0, .int .i64 2, .int .i64 2, .int .i64 1, .int .i64 1, .int .i64 2, .int .i64 2] 35)) (.slice (some ⟨w2.heap.size, 0, none⟩) 2 2) [⟨0, 0, 2, 2⟩, ⟨1, 1, 2, 2⟩]) := ⟨H2.out.trans (hb.mono H2.out.size), lit_new [⟨0, 0, 2, 2⟩, ⟨1, 1, 2, 2⟩] w2⟩
  clear hb
  have hof := of_any exA _ _ H3.out.2 (i64s_of (by decide +kernel))
  rw [ex_of.1, ex_of.2] at hof
  have HOf : Hid (Calls Try.prog 11 _ (w2.alloc (.cells #[.int .i64 0, .int .i64 0, .int .i64 2, .int .i64 2, .int .i64 1, .int .i64 1, .int .i64 2, .int .i64 2] 35)) fun e w' => Ans (w2.alloc (.cells #[.int .i64 0, .int .i64 0, .int .i64 2, .int .i64 2, .int .i64 1, .int .i64 1, .int .i64 2, .int .i64 2] 35)) exF 0 e w') := hof
  clear hof
  go_wp2_with fail
  refine (HOf.out).mono ?_
  rintro e w3 ⟨fv, rfl, hv, hb⟩
  obtain ⟨of, cf, rfl, hcf0, hgf⟩ := row_val hv
  obtain ⟨gf, rfl, _, hgf2⟩ := hgf (by decide)
  have hcf : 3 ≤ cf := hcf0
  rw [show exF.length = 3 from rfl]
  have H4 : Hid (Below w.heap.size w w3 ∧ LsR w3 (.slice (some ⟨gf, 0, none⟩) 3 cf) exF) := ⟨H3.out.1.trans (hb.mono H3.out.1.size), lsr_own hv⟩
  clear hb hv hgf hcf0 hgf2
  go_wp2_with fail
  refine (rect_any 0 0 3 3 _).mono ?_
  rintro e w4 ⟨rfl, hb⟩
  have H5 : Hid (Below w.heap.size w w4 ∧ LsR w4 (.slice (some ⟨gf, 0, none⟩) 3 cf) exF) := ⟨H4.out.1.trans (hb.mono H4.out.1.size), H4.out.2.below hb⟩
  clear hb
  have hb : Below w4.heap.size w4 (w4.alloc (.cells #[.int .i64 0, .int .i64 0, .int .i64 3, .int .i64 3] 35)) := (Below.refl _ _).alloc (Nat.le_refl _) _
  have H6 : Hid (Below w.heap.size w (w4.alloc (.cells #[.int .i64 0, .int .i64 0, .int .i64 3, .int .i64 3] 35)) ∧ LsR (w4.alloc (.cells #[.int .i64 0, .int .i64 0, .int .i64 3, .int .i64 3] 35)) (.slice (some ⟨gf, 0, none⟩) 3 cf) exF ∧ LsR (w4.alloc (.cells #[.int .i64 0, .int .i64 0, .int .i64 3, .int .i64 3] 35)) (.slice (some ⟨w4.heap.size, 0, none⟩) 1 1) [⟨0, 0, 3, 3⟩]) := ⟨H5.out.1.trans (hb.mono H5.out.1.size), H5.out.2.below hb, lit_new [⟨0, 0, 3, 3⟩] w4⟩
  clear hb
  go_wp2_with fail
  refine (rect_any 1 1 1 1 _).mono ?_
  rintro e w5 ⟨rfl, hb⟩
  have H7 : Hid (Below w.heap.size w w5 ∧ LsR w5 (.slice (some ⟨gf, 0, none⟩) 3 cf) exF ∧ LsR w5 (.slice (some ⟨w4.heap.size, 0, none⟩) 1 1) [⟨0, 0, 3, 3⟩]) := ⟨H6.out.1.trans (hb.mono H6.out.1.size), H6.out.2.1.below hb, H6.out.2.2.below hb⟩
  clear hb
  have hb : Below w5.heap.size w5 (w5.alloc (.cells #[.int .i64 1, .int .i64 1, .int .i64 1, .int .i64 1] 35)) := (Below.refl _ _).alloc (Nat.le_refl _) _
  have H8 : Hid (Below w.heap.size w (w5.alloc (.cells #[.int .i64 1, .int .i64 1, .int .i64 1, .int .i64 1] 35)) ∧ LsR (w5.alloc (.cells #[.int .i64 1, .int .i64 1, .int .i64 1, .int .i64 1] 35)) (.slice (some ⟨gf, 0, none⟩) 3 cf) exF ∧ LsR (w5.alloc (.cells #[.int .i64 1, .int .i64 1, .int .i64 1, .int .i64 1] 35)) (.slice (some ⟨w4.heap.size, 0, none⟩) 1 1) [⟨0, 0, 3, 3⟩] ∧ LsR (w5.alloc (.cells #[.int .i64 1, .int .i64 1, .int .i64 1, .int .i64 1] 35)) (.slice (some ⟨w5.heap.size, 0, none⟩) 1 1) [⟨1, 1, 1, 1⟩]) := ⟨H7.out.1.trans (hb.mono H7.out.1.size), H7.out.2.1.below hb, H7.out.2.2.below hb, lit_new [⟨1, 1, 1, 1⟩] w5⟩
  clear hb
  have hle := lessL_any [⟨0, 0, 3, 3⟩] [⟨1, 1, 1, 1⟩] _ _ _ (H8.out.2.2.1) (H8.out.2.2.2) (i64s_of (by decide +kernel)) (i64s_of (by decide +kernel))
  rw [ex_less.1, ex_less.2] at hle
  have HLe : Hid (Calls Try.prog 22 _ (w5.alloc (.cells #[.int .i64 1, .int .i64 1, .int .i64 1, .int .i64 1] 35)) fun e w' => Ans (w5.alloc (.cells #[.int .i64 1, .int .i64 1, .int .i64 1, .int .i64 1] 35)) exL 0 e w') := hle
  clear hle
  go_wp2_with fail
  refine (HLe.out).mono ?_
  rintro e w6 ⟨lv, rfl, hv, hb⟩
  obtain ⟨ol, cl, rfl, hcl0, hgl⟩ := row_val hv
  obtain ⟨gl, rfl, _, hgl2⟩ := hgl (by decide)
  have hcl : 4 ≤ cl := hcl0
  rw [show exL.length = 4 from rfl]
  have H9 : Hid (Below w.heap.size w w6 ∧ LsR w6 (.slice (some ⟨gf, 0, none⟩) 3 cf) exF ∧ LsR w6 (.slice (some ⟨gl, 0, none⟩) 4 cl) exL) := ⟨H8.out.1.trans (hb.mono H8.out.1.size), H8.out.2.1.below hb, lsr_own hv⟩
  clear hb hv hgl hcl0 hgl2
  have har := areaL_any exF _ _ (H9.out.2.1) (i64s_of (by decide +kernel))
  rw [ex_area.1, ex_area.2] at har
  have HAr : Hid (Calls Try.prog 14 #[.slice (some ⟨gf, 0, none⟩) 3 cf] w6 fun e w' => e = .returned (.tuple #[.int .i64 7, .int .i64 0]) ∧ Below w6.heap.size w6 w') := har
  clear har
  go_wp2_with fail
  refine (HAr.out).mono ?_
  rintro e w7 ⟨rfl, hb⟩
  have H10 : Hid (Below w.heap.size w w7 ∧ LsR w7 (.slice (some ⟨gf, 0, none⟩) 3 cf) exF ∧ LsR w7 (.slice (some ⟨gl, 0, none⟩) 4 cl) exL) := ⟨H9.out.1.trans (hb.mono H9.out.1.size), H9.out.2.1.below hb, H9.out.2.2.below hb⟩
  clear hb
  go_wp2_with fail
  refine (rect_any 0 0 1 1 _).mono ?_
  rintro e w8 ⟨rfl, hb⟩
  have H11 : Hid (Below w.heap.size w w8 ∧ LsR w8 (.slice (some ⟨gf, 0, none⟩) 3 cf) exF ∧ LsR w8 (.slice (some ⟨gl, 0, none⟩) 4 cl) exL) := ⟨H10.out.1.trans (hb.mono H10.out.1.size), H10.out.2.1.below hb, H10.out.2.2.below hb⟩
  clear hb
  go_wp2_with fail
  refine (rect_any 4 5 2 1 _).mono ?_
  rintro e w9 ⟨rfl, hb⟩
  have H12 : Hid (Below w.heap.size w w9 ∧ LsR w9 (.slice (some ⟨gf, 0, none⟩) 3 cf) exF ∧ LsR w9 (.slice (some ⟨gl, 0, none⟩) 4 cl) exL) := ⟨H11.out.1.trans (hb.mono H11.out.1.size), H11.out.2.1.below hb, H11.out.2.2.below hb⟩
  clear hb
  have hb : Below w9.heap.size w9 (w9.alloc (.cells #[.int .i64 0, .int .i64 0, .int .i64 1, .int .i64 1, .int .i64 4, .int .i64 5, .int .i64 2, .int .i64 1] 35)) := (Below.refl _ _).alloc (Nat.le_refl _) _
  have H13 : Hid (Below w.heap.size w (w9.alloc (.cells #[.int .i64 0, .int .i64 0, .int .i64 1, .int .i64 1, .int .i64 4, .int .i64 5, .int .i64 2, .int .i64 1] 35)) ∧ LsR (w9.alloc (.cells #[.int .i64 0, .int .i64 0, .int .i64 1, .int .i64 1, .int .i64 4, .int .i64 5, .int .i64 2, .int .i64 1] 35)) (.slice (some ⟨gf, 0, none⟩) 3 cf) exF ∧ LsR (w9.alloc (.cells #[.int .i64 0, .int .i64 0, .int .i64 1, .int .i64 1, .int .i64 4, .int .i64 5, .int .i64 2, .int .i64 1] 35)) (.slice (some ⟨gl, 0, none⟩) 4 cl) exL ∧ LsR (w9.alloc (.cells #[.int .i64 0, .int .i64 0, .int .i64 1, .int .i64 1, .int .i64 4, .int .i64 5, .int .i64 2, .int .i64 1] 35)) (.slice (some ⟨w9.heap.size, 0, none⟩) 2 2) [⟨0, 0, 1, 1⟩, ⟨4, 5, 2, 1⟩]) := ⟨H12.out.1.trans (hb.mono H12.out.1.size), H12.out.2.1.below hb, H12.out.2.2.below hb, lit_new [⟨0, 0, 1, 1⟩, ⟨4, 5, 2, 1⟩] w9⟩
  clear hb
  have hbo := boundL_any [⟨0, 0, 1, 1⟩, ⟨4, 5, 2, 1⟩] _ _ (H13.out.2.2.2) (i64s_of (by decide +kernel))
  rw [ex_bound.1, ex_bound.2] at hbo
  have HBo : Hid (Calls Try.prog 30 _ (w9.alloc (.cells #[.int .i64 0, .int .i64 0, .int .i64 1, .int .i64 1, .int .i64 4, .int .i64 5, .int .i64 2, .int .i64 1] 35)) fun e w' => e = .returned (.tuple #[.agg #[.int .i64 0, .int .i64 0, .int .i64 6, .int .i64 6], .int .i64 0]) ∧ Below (w9.alloc (.cells #[.int .i64 0, .int .i64 0, .int .i64 1, .int .i64 1, .int .i64 4, .int .i64 5, .int .i64 2, .int .i64 1] 35)).heap.size (w9.alloc (.cells #[.int .i64 0, .int .i64 0, .int .i64 1, .int .i64 1, .int .i64 4, .int .i64 5, .int .i64 2, .int .i64 1] 35)) w') := hbo
  clear hbo
  go_wp2_with fail
  refine (HBo.out).mono ?_
  rintro e w10 ⟨rfl, hb⟩
  have H14 : Hid (Below w.heap.size w w10 ∧ LsR w10 (.slice (some ⟨gf, 0, none⟩) 3 cf) exF ∧ LsR w10 (.slice (some ⟨gl, 0, none⟩) 4 cl) exL) := ⟨H13.out.1.trans (hb.mono H13.out.1.size), H13.out.2.1.below hb, H13.out.2.2.1.below hb⟩
  clear hb
  have hb : Below w10.heap.size w10 (w10.alloc (.cells #[.int .i64 0, .int .i64 0, .int .i64 6, .int .i64 6] 35)) := (Below.refl _ _).alloc (Nat.le_refl _) _
  have H15 : Hid (Below w.heap.size w (w10.alloc (.cells #[.int .i64 0, .int .i64 0, .int .i64 6, .int .i64 6] 35)) ∧ LsR (w10.alloc (.cells #[.int .i64 0, .int .i64 0, .int .i64 6, .int .i64 6] 35)) (.slice (some ⟨gf, 0, none⟩) 3 cf) exF ∧ LsR (w10.alloc (.cells #[.int .i64 0, .int .i64 0, .int .i64 6, .int .i64 6] 35)) (.slice (some ⟨gl, 0, none⟩) 4 cl) exL ∧ Bk (w10.alloc (.cells #[.int .i64 0, .int .i64 0, .int .i64 6, .int .i64 6] 35)) w10.heap.size #[.int .i64 0, .int .i64 0, .int .i64 6, .int .i64 6] 35) := ⟨H14.out.1.trans (hb.mono H14.out.1.size), H14.out.2.1.below hb, H14.out.2.2.below hb, Bk.new _ _ _⟩
  clear hb
  go_wp2_with fail
  refine (rect_any 0 0 2 1 _).mono ?_
  rintro e w11 ⟨rfl, hb⟩
  have H16 : Hid (Below w.heap.size w w11 ∧ LsR w11 (.slice (some ⟨gf, 0, none⟩) 3 cf) exF ∧ LsR w11 (.slice (some ⟨gl, 0, none⟩) 4 cl) exL ∧ Bk w11 w10.heap.size #[.int .i64 0, .int .i64 0, .int .i64 6, .int .i64 6] 35) := ⟨H15.out.1.trans (hb.mono H15.out.1.size), H15.out.2.1.below hb, H15.out.2.2.1.below hb, H15.out.2.2.2.below hb⟩
  clear hb
  have hb : Below w11.heap.size w11 (w11.alloc (.cells #[.int .i64 0, .int .i64 0, .int .i64 2, .int .i64 1] 35)) := (Below.refl _ _).alloc (Nat.le_refl _) _
  have H17 : Hid (Below w.heap.size w (w11.alloc (.cells #[.int .i64 0, .int .i64 0, .int .i64 2, .int .i64 1] 35)) ∧ LsR (w11.alloc (.cells #[.int .i64 0, .int .i64 0, .int .i64 2, .int .i64 1] 35)) (.slice (some ⟨gf, 0, none⟩) 3 cf) exF ∧ LsR (w11.alloc (.cells #[.int .i64 0, .int .i64 0, .int .i64 2, .int .i64 1] 35)) (.slice (some ⟨gl, 0, none⟩) 4 cl) exL ∧ Bk (w11.alloc (.cells #[.int .i64 0, .int .i64 0, .int .i64 2, .int .i64 1] 35)) w10.heap.size #[.int .i64 0, .int .i64 0, .int .i64 6, .int .i64 6] 35 ∧ LsR (w11.alloc (.cells #[.int .i64 0, .int .i64 0, .int .i64 2, .int .i64 1] 35)) (.slice (some ⟨w11.heap.size, 0, none⟩) 1 1) [⟨0, 0, 2, 1⟩]) := ⟨H16.out.1.trans (hb.mono H16.out.1.size), H16.out.2.1.below hb, H16.out.2.2.1.below hb, H16.out.2.2.2.below hb, lit_new [⟨0, 0, 2, 1⟩] w11⟩
  clear hb
  go_wp2_with fail
  refine (rect_any 0 0 1 1 _).mono ?_
  rintro e w12 ⟨rfl, hb⟩
  have H18 : Hid (Below w.heap.size w w12 ∧ LsR w12 (.slice (some ⟨gf, 0, none⟩) 3 cf) exF ∧ LsR w12 (.slice (some ⟨gl, 0, none⟩) 4 cl) exL ∧ Bk w12 w10.heap.size #[.int .i64 0, .int .i64 0, .int .i64 6, .int .i64 6] 35 ∧ LsR w12 (.slice (some ⟨w11.heap.size, 0, none⟩) 1 1) [⟨0, 0, 2, 1⟩]) := ⟨H17.out.1.trans (hb.mono H17.out.1.size), H17.out.2.1.below hb, H17.out.2.2.1.below hb, H17.out.2.2.2.1.below hb, H17.out.2.2.2.2.below hb⟩
  clear hb
  go_wp2_with fail
  refine (rect_any 1 0 1 1 _).mono ?_
  rintro e w13 ⟨rfl, hb⟩
  have H19 : Hid (Below w.heap.size w w13 ∧ LsR w13 (.slice (some ⟨gf, 0, none⟩) 3 cf) exF ∧ LsR w13 (.slice (some ⟨gl, 0, none⟩) 4 cl) exL ∧ Bk w13 w10.heap.size #[.int .i64 0, .int .i64 0, .int .i64 6, .int .i64 6] 35 ∧ LsR w13 (.slice (some ⟨w11.heap.size, 0, none⟩) 1 1) [⟨0, 0, 2, 1⟩]) := ⟨H18.out.1.trans (hb.mono H18.out.1.size), H18.out.2.1.below hb, H18.out.2.2.1.below hb, H18.out.2.2.2.1.below hb, H18.out.2.2.2.2.below hb⟩
  clear hb
  have hb : Below w13.heap.size w13 (w13.alloc (.cells #[.int .i64 0, .int .i64 0, .int .i64 1, .int .i64 1, .int .i64 1, .int .i64 0, .int .i64 1, .int .i64 1] 35)) := (Below.refl _ _).alloc (Nat.le_refl _) _
  have H20 : Hid (Below w.heap.size w (w13.alloc (.cells #[.int .i64 0, .int .i64 0, .int .i64 1, .int .i64 1, .int .i64 1, .int .i64 0, .int .i64 1, .int .i64 1] 35)) ∧ LsR (w13.alloc (.cells #[.int .i64 0, .int .i64 0, .int .i64 1, .int .i64 1, .int .i64 1, .int .i64 0, .int .i64 1, .int .i64 1] 35)) (.slice (some ⟨gf, 0, none⟩) 3 cf) exF ∧ LsR (w13.alloc (.cells #[.int .i64 0, .int .i64 0, .int .i64 1, .int .i64 1, .int .i64 1, .int .i64 0, .int .i64 1, .int .i64 1] 35)) (.slice (some ⟨gl, 0, none⟩) 4 cl) exL ∧ Bk (w13.alloc (.cells #[.int .i64 0, .int .i64 0, .int .i64 1, .int .i64 1, .int .i64 1, .int .i64 0, .int .i64 1, .int .i64 1] 35)) w10.heap.size #[.int .i64 0, .int .i64 0, .int .i64 6, .int .i64 6] 35 ∧ LsR (w13.alloc (.cells #[.int .i64 0, .int .i64 0, .int .i64 1, .int .i64 1, .int .i64 1, .int .i64 0, .int .i64 1, .int .i64 1] 35)) (.slice (some ⟨w11.heap.size, 0, none⟩) 1 1) [⟨0, 0, 2, 1⟩] ∧ LsR (w13.alloc (.cells #[.int .i64 0, .int .i64 0, .int .i64 1, .int .i64 1, .int .i64 1, .int .i64 0, .int .i64 1, .int .i64 1] 35)) (.slice (some ⟨w13.heap.size, 0, none⟩) 2 2) [⟨0, 0, 1, 1⟩, ⟨1, 0, 1, 1⟩]) := ⟨H19.out.1.trans (hb.mono H19.out.1.size), H19.out.2.1.below hb, H19.out.2.2.1.below hb, H19.out.2.2.2.1.below hb, H19.out.2.2.2.2.below hb, lit_new [⟨0, 0, 1, 1⟩, ⟨1, 0, 1, 1⟩] w13⟩
  clear hb
  have hsa := sameS_any [⟨0, 0, 2, 1⟩] [⟨0, 0, 1, 1⟩, ⟨1, 0, 1, 1⟩] _ _ _ (H20.out.2.2.2.2.1) (H20.out.2.2.2.2.2) (i64s_of (by decide +kernel)) (i64s_of (by decide +kernel))
  rw [ex_same.1, ex_same.2] at hsa
  have HSa : Hid (Calls Try.prog 16 _ (w13.alloc (.cells #[.int .i64 0, .int .i64 0, .int .i64 1, .int .i64 1, .int .i64 1, .int .i64 0, .int .i64 1, .int .i64 1] 35)) fun e w' => e = .returned (.tuple #[.bool true, .int .i64 0]) ∧ Below (w13.alloc (.cells #[.int .i64 0, .int .i64 0, .int .i64 1, .int .i64 1, .int .i64 1, .int .i64 0, .int .i64 1, .int .i64 1] 35)).heap.size (w13.alloc (.cells #[.int .i64 0, .int .i64 0, .int .i64 1, .int .i64 1, .int .i64 1, .int .i64 0, .int .i64 1, .int .i64 1] 35)) w') := hsa
  clear hsa
  go_wp2_with fail
  refine (HSa.out).mono ?_
  rintro e w14 ⟨rfl, hb⟩
  have H21 : Hid (Below w.heap.size w w14 ∧ LsR w14 (.slice (some ⟨gf, 0, none⟩) 3 cf) exF ∧ LsR w14 (.slice (some ⟨gl, 0, none⟩) 4 cl) exL ∧ Bk w14 w10.heap.size #[.int .i64 0, .int .i64 0, .int .i64 6, .int .i64 6] 35) := ⟨H20.out.1.trans (hb.mono H20.out.1.size), H20.out.2.1.below hb, H20.out.2.2.1.below hb, H20.out.2.2.2.1.below hb⟩
  clear hb
  have hha := hasL_any exF _ 2 2 _ (H21.out.2.1) (i64s_of (by decide +kernel))
  rw [ex_has, ex_area.2] at hha
  have HHa : Hid (Calls Try.prog 29 #[.slice (some ⟨gf, 0, none⟩) 3 cf, .agg #[.int .i64 2, .int .i64 2]] w14 fun e w' => e = .returned (.tuple #[.bool true, .int .i64 0]) ∧ Below w14.heap.size w14 w') := hha
  clear hha
  go_wp2_with fail
  refine (HHa.out).mono ?_
  rintro e w15 ⟨rfl, hb⟩
  have H22 : Hid (Below w.heap.size w w15 ∧ LsR w15 (.slice (some ⟨gf, 0, none⟩) 3 cf) exF ∧ LsR w15 (.slice (some ⟨gl, 0, none⟩) 4 cl) exL ∧ Bk w15 w10.heap.size #[.int .i64 0, .int .i64 0, .int .i64 6, .int .i64 6] 35) := ⟨H21.out.1.trans (hb.mono H21.out.1.size), H21.out.2.1.below hb, H21.out.2.2.1.below hb, H21.out.2.2.2.below hb⟩
  clear hb
  obtain ⟨hgF, hcF⟩ := lsr_cells (H22.out.2.1) (by decide)
  obtain ⟨hgL, hcL⟩ := lsr_cells (H22.out.2.2.1) (by decide)
  have hBb := H22.out.2.2.2
  have HCf : Hid (∀ w', Below w15.heap.size w15 w' → Calls Try.prog 13 #[.slice (some ⟨gf, 0, none⟩) 3 cf] w' fun e w'' => e = .returned (.int .i64 0) ∧ Below w'.heap.size w' w'') := fun w' hb => by
    have h := checkL_any exF _ w' (H22.out.2.1.below hb) (i64s_of (by decide +kernel))
    rw [ex_chk.1] at h
    exact h
  have HLw : Hid (Below w.heap.size w w15) := H22.out.1
  go_wp2_with fail
  refine R4.wp_region_lit 47 0 6 (fun _ _ => undef) (fun _ => .cells #[] 0) [] (by kernel_rfl) (by kernel_rfl) rfl ?_ rfl ?_
  · intro k hk
    omega
  apply Exists.intro
  refine ⟨fun bs ne => ?_, ?_, ?_⟩
  · have kF : ∀ (o : Nat) (t : Gb w15 bs), t.wd.cell? ⟨gf, o, none⟩ = w15.cell? ⟨gf, o, none⟩ := fun o t => t.below.cell (p := ⟨gf, o, none⟩) hgF
    have kL : ∀ (o : Nat) (t : Gb w15 bs), t.wd.cell? ⟨gl, o, none⟩ = w15.cell? ⟨gl, o, none⟩ := fun o t => t.below.cell (p := ⟨gl, o, none⟩) hgL
    have hB := fun t : Gb w15 bs => (hBb.below t.below).at4
    have cf00 := fun t : Gb w15 bs => (show t.wd.cell? ⟨gf, 0, none⟩ = some (.int .i64 0) from (kF 0 t).trans (hcF 0 (by decide)).1)
    have cf01 := fun t : Gb w15 bs => (show t.wd.cell? ⟨gf, 1, none⟩ = some (.int .i64 0) from (kF 1 t).trans (hcF 0 (by decide)).2.1)
    have cf02 := fun t : Gb w15 bs => (show t.wd.cell? ⟨gf, 2, none⟩ = some (.int .i64 2) from (kF 2 t).trans (hcF 0 (by decide)).2.2.1)
    have cf03 := fun t : Gb w15 bs => (show t.wd.cell? ⟨gf, 3, none⟩ = some (.int .i64 1) from (kF 3 t).trans (hcF 0 (by decide)).2.2.2)
    have cf10 := fun t : Gb w15 bs => (show t.wd.cell? ⟨gf, 4, none⟩ = some (.int .i64 0) from (kF 4 t).trans (hcF 1 (by decide)).1)
    have cf11 := fun t : Gb w15 bs => (show t.wd.cell? ⟨gf, 5, none⟩ = some (.int .i64 1) from (kF 5 t).trans (hcF 1 (by decide)).2.1)
    have cf12 := fun t : Gb w15 bs => (show t.wd.cell? ⟨gf, 6, none⟩ = some (.int .i64 3) from (kF 6 t).trans (hcF 1 (by decide)).2.2.1)
    have cf13 := fun t : Gb w15 bs => (show t.wd.cell? ⟨gf, 7, none⟩ = some (.int .i64 1) from (kF 7 t).trans (hcF 1 (by decide)).2.2.2)
    have cf20 := fun t : Gb w15 bs => (show t.wd.cell? ⟨gf, 8, none⟩ = some (.int .i64 1) from (kF 8 t).trans (hcF 2 (by decide)).1)
    have cf21 := fun t : Gb w15 bs => (show t.wd.cell? ⟨gf, 9, none⟩ = some (.int .i64 2) from (kF 9 t).trans (hcF 2 (by decide)).2.1)
    have cf22 := fun t : Gb w15 bs => (show t.wd.cell? ⟨gf, 10, none⟩ = some (.int .i64 2) from (kF 10 t).trans (hcF 2 (by decide)).2.2.1)
    have cf23 := fun t : Gb w15 bs => (show t.wd.cell? ⟨gf, 11, none⟩ = some (.int .i64 1) from (kF 11 t).trans (hcF 2 (by decide)).2.2.2)
    have cl0 := fun t : Gb w15 bs => (show t.wd.cell? ⟨gl, 12, none⟩ = some (.int .i64 0) from (kL 12 t).trans (hcL 3 (by decide)).1)
    have cb0 := fun t : Gb w15 bs => (hB t).1
    have cl1 := fun t : Gb w15 bs => (show t.wd.cell? ⟨gl, 13, none⟩ = some (.int .i64 2) from (kL 13 t).trans (hcL 3 (by decide)).2.1)
    have cb1 := fun t : Gb w15 bs => (hB t).2.1
    have cl2 := fun t : Gb w15 bs => (show t.wd.cell? ⟨gl, 14, none⟩ = some (.int .i64 3) from (kL 14 t).trans (hcL 3 (by decide)).2.2.1)
    have cb2 := fun t : Gb w15 bs => (hB t).2.2.1
    have cl3 := fun t : Gb w15 bs => (show t.wd.cell? ⟨gl, 15, none⟩ = some (.int .i64 1) from (kL 15 t).trans (hcL 3 (by decide)).2.2.2)
    have cb3 := fun t : Gb w15 bs => (hB t).2.2.2
    have hq := eql_rect
    clear kF kL hB
    simp only [List.take_succ_cons, List.take_zero]
    repeat (go_big_quiet_step (first
      | (go_at_call 17; exact gb_call (rect_any _ _ _ _ _))
      | (go_at_call 13; exact gb_call (HCf.out _ (Gb.below _)))))
    exact wpQuiet_nil rfl
  · intro i h1 h2
    omega
  intro bl wr hbl _ _
  simp only [R4.layL]
  have HB : Hid (Below w15.heap.size w15 wr) := hbl
  clear hbl
  have HN : Hid (∀ W2, Below w15.heap.size w15 W2 → Calls Try.prog 13 #[.slice (some ⟨W2.heap.size, 0, none⟩) 1 1] (W2.alloc (.cells #[.int .i64 0, .int .i64 0, .int .i64 (-1), .int .i64 2] 35)) fun e w'' => e = .returned (.int .i64 5) ∧ Below w15.heap.size w15 w'') := fun W2 hb => by
    have h := checkL_any [⟨0, 0, -1, 2⟩] _ _ (lit_new [⟨0, 0, -1, 2⟩] W2) (i64s_of (by decide +kernel))
    rw [ex_chk.2] at h
    have ha : Below W2.heap.size W2 (W2.alloc (.cells #[.int .i64 0, .int .i64 0, .int .i64 (-1), .int .i64 2] 35)) := (Below.refl _ _).alloc (Nat.le_refl _) _
    exact h.mono fun e w'' ⟨he, h2⟩ => ⟨he, (hb.trans (ha.mono hb.size)).trans (h2.mono (hb.trans (ha.mono hb.size)).size)⟩
  refine wpAny_one 47 (by kernel_rfl) rfl ?_
  intro K hK
  go_simp
  go_wp2_with (go_at_call 17; refine (rect_any _ _ _ _ _).mono ?_; rintro e w16 ⟨rfl, hb16⟩)
  try (refine hK _ _ ?_)
  try clear hK K
  have HB16 : Hid (Below w15.heap.size w15 w16) := HB.out.trans (hb16.mono HB.out.size)
  clear hb16
  refine wpAny_one 48 (by kernel_rfl) rfl ?_
  intro K hK
  go_simp
  try (refine hK _ _ ?_)
  try clear hK K
  refine wpAny_one 49 (by kernel_rfl) rfl ?_
  intro K hK
  go_simp
  go_wp2_with (go_at_call 13; refine (HN.out _ HB16.out).mono ?_; rintro e w17 ⟨rfl, hb17⟩)
  try (refine hK _ _ ?_)
  try clear hK K
  have HB17 : Hid (Below w.heap.size w w17) := HLw.out.trans (hb17.mono HLw.out.size)
  clear hb17
  refine wpAny_one 50 (by kernel_rfl) rfl ?_
  intro K hK
  go_simp
  refine hK _ _ ?_
  clear hK K
  refine wpAny_one 51 (by kernel_rfl) rfl ?_
  intro K hK
  go_simp
  refine hK _ _ ?_
  clear hK K
  refine wpAny_one 52 (by kernel_rfl) rfl ?_
  intro K hK
  go_simp
  refine hK _ _ ?_
  clear hK K
  refine wpAny_done (by kernel_rfl) ?_ _
  go_wp2
  go_ret
  exact ⟨rfl, HB17.out⟩

end Go.Proofs.Ytagkbpceiedikaa
