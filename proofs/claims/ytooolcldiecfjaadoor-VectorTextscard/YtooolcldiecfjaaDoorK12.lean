/-
  Texts of this claim, one behind the other: what each is about stands ahead of it.
-/
import Derived.Test.YtooolcldiecfjaaDoorK11
import Derived.Test.YtooolcldiecfjaaDoorK10
import Derived.Test.YtooolcldiecfjaaDoorK3
import Derived.Test.YtooolcldiecfjaaDoorK6
import Derived.Test.YtooolcldiecfjaaDoorK7
import Derived.Lib.BufferRead
import Derived.BigQuiet
import Derived.OwnWalk
import Derived.Test.YtooolcldiecfjaaDoorK1
/-
  Contracts of the document's answer for layer 16: line.
-/
namespace Go.Proofs.YtooolcldiecfjaaDoor
open Go.RowKit

theorem rcS_size {r : Rc} (h0 : I64 r.x) (h1 : I64 r.y) (h2 : I64 r.w) (h3 : I64 r.h) : (rcS r).size ≤ 200 := by
  have a0 := nmS_size h0
  have a1 := nmS_size h1
  have a2 := nmS_size h2
  have a3 := nmS_size h3
  have e1 : (⟨#[120]⟩ : ByteArray).size = 1 := rfl
  have e2 : (⟨#[121]⟩ : ByteArray).size = 1 := rfl
  have e3 : (⟨#[119]⟩ : ByteArray).size = 1 := rfl
  have e4 : (⟨#[104]⟩ : ByteArray).size = 1 := rfl
  unfold rcS
  rw [ByteArray.size_append, ByteArray.size_append, ByteArray.size_append, fldS_size, fldS_size, fldS_size, fldS_size]
  omega
theorem txt_size (c : Co) : (txt c).size ≤ 9 := by
  have := txt_len c
  simpa using this

/-- The document's line as a stroke in memory asks it. -/
theorem bk_cells {W : World} {b : Nat} {s : St} {t : TypeId} (h : Bk W b (#[.int .u8 s.k, .int .i64 s.r.x, .int .i64 s.r.y, .int .i64 s.r.w, .int .i64 s.r.h, .int .u8 s.c.r, .int .u8 s.c.g, .int .u8 s.c.b, .int .u8 s.c.a, .int .u8 s.b.r, .int .u8 s.b.g, .int .u8 s.b.b, .int .u8 s.b.a, .string s.t, .int .i64 s.n]) t) : StAt W b 0 s := bk15 h

set_option maxRecDepth 10000 in
set_option maxHeartbeats 8000000 in
theorem rline_any (s : St) (w : World) (hs : WfS s) (ht : s.t.size ≤ 100000) :
    Calls Tryd.prog 18 #[(Value.agg #[.int .u8 s.k, .int .i64 s.r.x, .int .i64 s.r.y, .int .i64 s.r.w, .int .i64 s.r.h, .int .u8 s.c.r, .int .u8 s.c.g, .int .u8 s.c.b, .int .u8 s.c.a, .int .u8 s.b.r, .int .u8 s.b.g, .int .u8 s.b.b, .int .u8 s.b.a, .string s.t, .int .i64 s.n])] w fun e w' => e = .returned (.string (lnS s)) ∧ Below w.heap.size w w' := by
  obtain ⟨_, ⟨h1, h2, h3, h4⟩, h5, h6, _, h7⟩ := hs
  obtain ⟨Fn, hFn⟩ : ∃ F, F = fldS ⟨#[110]⟩ (nmS s.n) := ⟨_, rfl⟩
  obtain ⟨Fc, hFc⟩ : ∃ F, F = fldS ⟨#[99]⟩ (txt s.c) := ⟨_, rfl⟩
  obtain ⟨Fb, hFb⟩ : ∃ F, F = fldS ⟨#[98]⟩ (txt s.b) := ⟨_, rfl⟩
  obtain ⟨Fr, hFr⟩ : ∃ F, F = rcS s.r := ⟨_, rfl⟩
  obtain ⟨Fe, hFe⟩ : ∃ F : ByteArray, F = ⟨(escL s.t.data.toList).toArray⟩ := ⟨_, rfl⟩
  have zn : Fn.size ≤ 30 := by rw [hFn, fldS_size]; have := nmS_size h7; have e : (⟨#[110]⟩ : ByteArray).size = 1 := rfl; omega
  have zc : Fc.size ≤ 30 := by rw [hFc, fldS_size]; have := txt_size s.c; have e : (⟨#[99]⟩ : ByteArray).size = 1 := rfl; omega
  have zb : Fb.size ≤ 30 := by rw [hFb, fldS_size]; have := txt_size s.b; have e : (⟨#[98]⟩ : ByteArray).size = 1 := rfl; omega
  have zr : Fr.size ≤ 200 := by rw [hFr]; exact rcS_size h1 h2 h3 h4
  have ze : Fe.size ≤ 400000 := by
    rw [hFe]
    have := escL_len s.t.data.toList
    have e : s.t.data.toList.length = s.t.size := by simp
    show (escL s.t.data.toList).toArray.size ≤ _
    simp
    omega
  have HN : Hid (∀ W, Calls Tryd.prog 17 #[.int .i64 s.n] W fun e w' => e = .returned (.string (nmS s.n)) ∧ w' = W) := fun W => rnum_any s.n W h7
  have HFn : Hid (∀ W, Calls Tryd.prog 16 #[.string ⟨#[110]⟩, .string (nmS s.n)] W fun e w' => e = .returned (.string Fn) ∧ w' = W) := fun W => by rw [hFn]; exact field_any _ _ W (by decide) (by have := nmS_size h7; omega)
  have HC : Hid (∀ W, Calls Tryd.prog 28 #[(Value.agg #[.int .u8 s.c.r, .int .u8 s.c.g, .int .u8 s.c.b, .int .u8 s.c.a])] W fun e w' => e = .returned (.string (txt s.c)) ∧ Below W.heap.size W w') := fun W => rtext_any s.c W h5
  have HFc : Hid (∀ W, Calls Tryd.prog 16 #[.string ⟨#[99]⟩, .string (txt s.c)] W fun e w' => e = .returned (.string Fc) ∧ w' = W) := fun W => by rw [hFc]; exact field_any _ _ W (by decide) (by have := txt_size s.c; omega)
  have HCb : Hid (∀ W, Calls Tryd.prog 28 #[(Value.agg #[.int .u8 s.b.r, .int .u8 s.b.g, .int .u8 s.b.b, .int .u8 s.b.a])] W fun e w' => e = .returned (.string (txt s.b)) ∧ Below W.heap.size W w') := fun W => rtext_any s.b W h6
  have HFb : Hid (∀ W, Calls Tryd.prog 16 #[.string ⟨#[98]⟩, .string (txt s.b)] W fun e w' => e = .returned (.string Fb) ∧ w' = W) := fun W => by rw [hFb]; exact field_any _ _ W (by decide) (by have := txt_size s.b; omega)
  have HR : Hid (∀ W, Calls Tryd.prog 29 #[.agg #[.int .i64 s.r.x, .int .i64 s.r.y, .int .i64 s.r.w, .int .i64 s.r.h]] W fun e w' => e = .returned (.string Fr) ∧ Below W.heap.size W w') := fun W => by rw [hFr]; exact rrect_any s.r W h1 h2 h3 h4
  have HEs : Hid (∀ W, Calls Tryd.prog 9 #[.string s.t] W fun e w' => e = .returned (.string Fe) ∧ Below W.heap.size W w') := fun W => by rw [hFe]; exact rescape_any s.t W (by omega)
  have HLn : Hid (lnS s = if s.k = 1 then ⟨#[60, 102, 105, 108, 108]⟩ ++ Fr ++ Fc ++ Fn ++ ⟨#[47, 62, 10]⟩ else if s.k = 2 then ⟨#[60, 102, 114, 97, 109, 101]⟩ ++ Fr ++ Fc ++ Fn ++ ⟨#[47, 62, 10]⟩
      else if s.k = 3 then ⟨#[60, 119, 114, 105, 116, 101]⟩ ++ Fr ++ Fc ++ Fb ++ Fn ++ ⟨#[62]⟩ ++ Fe ++ ⟨#[60, 47, 119, 114, 105, 116, 101, 62, 10]⟩ else if s.k = 4 then ⟨#[60, 99, 108, 105, 112]⟩ ++ Fr ++ Fn ++ ⟨#[62, 10]⟩
      else ⟨#[60, 47, 99, 108, 105, 112]⟩ ++ Fn ++ ⟨#[62, 10]⟩) := by rw [hFn, hFc, hFb, hFr, hFe]; rfl
  have HB : Hid (Below w.heap.size w (w.alloc (.cells (#[.int .u8 s.k, .int .i64 s.r.x, .int .i64 s.r.y, .int .i64 s.r.w, .int .i64 s.r.h, .int .u8 s.c.r, .int .u8 s.c.g, .int .u8 s.c.b, .int .u8 s.c.a, .int .u8 s.b.r, .int .u8 s.b.g, .int .u8 s.b.b, .int .u8 s.b.a, .string s.t, .int .i64 s.n]) 32)) ∧ Bk (w.alloc (.cells (#[.int .u8 s.k, .int .i64 s.r.x, .int .i64 s.r.y, .int .i64 s.r.w, .int .i64 s.r.h, .int .u8 s.c.r, .int .u8 s.c.g, .int .u8 s.c.b, .int .u8 s.c.a, .int .u8 s.b.r, .int .u8 s.b.g, .int .u8 s.b.b, .int .u8 s.b.a, .string s.t, .int .i64 s.n]) 32)) w.heap.size (#[.int .u8 s.k, .int .i64 s.r.x, .int .i64 s.r.y, .int .i64 s.r.w, .int .i64 s.r.h, .int .u8 s.c.r, .int .u8 s.c.g, .int .u8 s.c.b, .int .u8 s.c.a, .int .u8 s.b.r, .int .u8 s.b.g, .int .u8 s.b.b, .int .u8 s.b.a, .string s.t, .int .i64 s.n]) 32) := ⟨(Below.refl _ w).alloc (Nat.le_refl _) _, Bk.new _ _ _⟩
  obtain ⟨L, hL⟩ : ∃ L, L = lnS s := ⟨_, rfl⟩
  rw [← hL] at HLn ⊢
  clear h1 h2 h3 h4 h5 h6 h7 ht hFn hFc hFb hFr hFe hL
  generalize nmS s.n = Sn at *
  generalize txt s.c = Sc at *
  generalize txt s.b = Sb at *
  obtain ⟨b, hb⟩ : ∃ b, b = w.heap.size := ⟨_, rfl⟩
  obtain ⟨x0, x1, x2, x3, x4, x5, x6, x7, x8, x9, x10, x11, x12, x13, x14⟩ := bk15 HB.out.2
  simp only [Nat.zero_add] at x1 x2 x3 x4 x5 x6 x7 x8 x9 x10 x11 x12 x13 x14
  go_enter Tryd.func18, Tryd.ntmps18
  go_wp2_with fail
  rw [← hb] at x0 x1 x2 x3 x4 x5 x6 x7 x8 x9 x10 x11 x12 x13 x14 ⊢
  have HB' : Hid (Below w.heap.size w (w.alloc (.cells (#[.int .u8 s.k, .int .i64 s.r.x, .int .i64 s.r.y, .int .i64 s.r.w, .int .i64 s.r.h, .int .u8 s.c.r, .int .u8 s.c.g, .int .u8 s.c.b, .int .u8 s.c.a, .int .u8 s.b.r, .int .u8 s.b.g, .int .u8 s.b.b, .int .u8 s.b.a, .string s.t, .int .i64 s.n]) 32)) ∧ Bk (w.alloc (.cells (#[.int .u8 s.k, .int .i64 s.r.x, .int .i64 s.r.y, .int .i64 s.r.w, .int .i64 s.r.h, .int .u8 s.c.r, .int .u8 s.c.g, .int .u8 s.c.b, .int .u8 s.c.a, .int .u8 s.b.r, .int .u8 s.b.g, .int .u8 s.b.b, .int .u8 s.b.a, .string s.t, .int .i64 s.n]) 32)) b (#[.int .u8 s.k, .int .i64 s.r.x, .int .i64 s.r.y, .int .i64 s.r.w, .int .i64 s.r.h, .int .u8 s.c.r, .int .u8 s.c.g, .int .u8 s.c.b, .int .u8 s.c.a, .int .u8 s.b.r, .int .u8 s.b.g, .int .u8 s.b.b, .int .u8 s.b.a, .string s.t, .int .i64 s.n]) 32) := by rw [hb]; exact HB.out
  clear HB hb
  generalize w.alloc (.cells (#[.int .u8 s.k, .int .i64 s.r.x, .int .i64 s.r.y, .int .i64 s.r.w, .int .i64 s.r.h, .int .u8 s.c.r, .int .u8 s.c.g, .int .u8 s.c.b, .int .u8 s.c.a, .int .u8 s.b.r, .int .u8 s.b.g, .int .u8 s.b.b, .int .u8 s.b.a, .string s.t, .int .i64 s.n]) 32) = W at *
  refine (HN.out _).mono ?_
  rintro e w' ⟨rfl, hw⟩
  obtain rfl := hw.symm
  go_wp2_with fail
  refine (HFn.out _).mono ?_
  rintro e w' ⟨rfl, hw⟩
  obtain rfl := hw.symm
  go_wp2_with fail
  refine (HC.out _).mono ?_
  rintro e w1 ⟨rfl, hb1⟩
  have HB1 : Hid (Below w.heap.size w w1 ∧ Bk w1 b (#[.int .u8 s.k, .int .i64 s.r.x, .int .i64 s.r.y, .int .i64 s.r.w, .int .i64 s.r.h, .int .u8 s.c.r, .int .u8 s.c.g, .int .u8 s.c.b, .int .u8 s.c.a, .int .u8 s.b.r, .int .u8 s.b.g, .int .u8 s.b.b, .int .u8 s.b.a, .string s.t, .int .i64 s.n]) 32) := ⟨HB'.out.1.trans (hb1.mono HB'.out.1.size), HB'.out.2.below hb1⟩
  clear hb1 HB' x0 x1 x2 x3 x4 x5 x6 x7 x8 x9 x10 x11 x12 x13 x14
  obtain ⟨x0, x1, x2, x3, x4, x5, x6, x7, x8, x9, x10, x11, x12, x13, x14⟩ := bk15 HB1.out.2
  simp only [Nat.zero_add] at x1 x2 x3 x4 x5 x6 x7 x8 x9 x10 x11 x12 x13 x14
  go_wp2_with fail
  refine (HFc.out _).mono ?_
  rintro e w' ⟨rfl, hw⟩
  obtain rfl := hw.symm
  by_cases k1 : s.k = 1
  · obtain rfl := HLn.out.trans (if_pos k1)
    go_wp2_with fail
    refine (HR.out _).mono ?_
    rintro e w2 ⟨rfl, hb2⟩
    have H2 : Hid (Below w.heap.size w w2) := HB1.out.1.trans (hb2.mono HB1.out.1.size)
    clear hb2 HB1 x0 x1 x2 x3 x4 x5 x6 x7 x8 x9 x10 x11 x12 x13 x14
    go_wp2
    go_ret
    exact ⟨rfl, H2.out⟩
  have n1 : (s.k == 1) = false := by rw [beq_eq_false_iff_ne]; exact k1
  by_cases k2 : s.k = 2
  · obtain rfl := HLn.out.trans ((if_neg k1).trans (if_pos k2))
    go_wp2_with fail
    refine (HR.out _).mono ?_
    rintro e w2 ⟨rfl, hb2⟩
    have H2 : Hid (Below w.heap.size w w2) := HB1.out.1.trans (hb2.mono HB1.out.1.size)
    clear hb2 HB1 x0 x1 x2 x3 x4 x5 x6 x7 x8 x9 x10 x11 x12 x13 x14
    go_wp2
    go_ret
    exact ⟨rfl, H2.out⟩
  have n2 : (s.k == 2) = false := by rw [beq_eq_false_iff_ne]; exact k2
  by_cases k3 : s.k = 3
  · obtain rfl := HLn.out.trans ((if_neg k1).trans ((if_neg k2).trans (if_pos k3)))
    go_wp2_with fail
    clear x0 x1 x2 x3 x4 x5 x6 x7 x8 x9 x10 x11 x12 x13 x14
    have ne := gw_ne HB1.out.1
    have q := fun tt : Gw w1 => bk15 (HB1.out.2.below tt.below)
    have x1 := fun tt : Gw w1 => (q tt).2.1
    have x2 := fun tt : Gw w1 => (q tt).2.2.1
    have x3 := fun tt : Gw w1 => (q tt).2.2.2.1
    have x4 := fun tt : Gw w1 => (q tt).2.2.2.2.1
    have x9 := fun tt : Gw w1 => (q tt).2.2.2.2.2.2.2.2.2.1
    have x10 := fun tt : Gw w1 => (q tt).2.2.2.2.2.2.2.2.2.2.1
    have x11 := fun tt : Gw w1 => (q tt).2.2.2.2.2.2.2.2.2.2.2.1
    have x12 := fun tt : Gw w1 => (q tt).2.2.2.2.2.2.2.2.2.2.2.2.1
    have x13 := fun tt : Gw w1 => (q tt).2.2.2.2.2.2.2.2.2.2.2.2.2.1
    simp only [Nat.zero_add] at x1 x2 x3 x4 x9 x10 x11 x12 x13
    clear q
    refine wp_region_gw (by kernel_rfl) (by kernel_rfl) ?_
    repeat (go_big_quiet_step (first
      | (go_at_call 29; exact gw_call (HR.out _))
      | (go_at_call 28; exact gw_call (HCb.out _))
      | (go_at_call 16; exact gw_same (HFb.out _))
      | (go_at_call 9; exact gw_call (HEs.out _))))
    refine wpQuiet_nil ?_
    rintro _ ⟨t, rfl⟩
    have H2 : Hid (Below w.heap.size w t.wd) := HB1.out.1.trans (t.below.mono HB1.out.1.size)
    clear ne x1 x2 x3 x4 x9 x10 x11 x12 x13
    generalize t.wd = w2 at *
    go_wp2
    go_ret
    exact ⟨rfl, H2.out⟩
  have n3 : (s.k == 3) = false := by rw [beq_eq_false_iff_ne]; exact k3
  by_cases k4 : s.k = 4
  · obtain rfl := HLn.out.trans ((if_neg k1).trans ((if_neg k2).trans ((if_neg k3).trans (if_pos k4))))
    go_wp2_with fail
    refine (HR.out _).mono ?_
    rintro e w2 ⟨rfl, hb2⟩
    have H2 : Hid (Below w.heap.size w w2) := HB1.out.1.trans (hb2.mono HB1.out.1.size)
    clear hb2 HB1 x0 x1 x2 x3 x4 x5 x6 x7 x8 x9 x10 x11 x12 x13 x14
    go_wp2
    go_ret
    exact ⟨rfl, H2.out⟩
  have n4 : (s.k == 4) = false := by rw [beq_eq_false_iff_ne]; exact k4
  obtain rfl := HLn.out.trans ((if_neg k1).trans ((if_neg k2).trans ((if_neg k3).trans (if_neg k4))))
  go_wp2
  go_ret
  exact ⟨rfl, HB1.out.1⟩

end Go.Proofs.YtooolcldiecfjaaDoor

/-
  Contracts of the document's answer for layer 16: Text.
-/
namespace Go.Proofs.YtooolcldiecfjaaDoor
open Go.RowKit

def hdS (zw zh : Int) : ByteArray := ⟨#[60, 115, 104, 97, 112, 101, 115]⟩ ++ fldS ⟨#[119]⟩ (nmS zw) ++ fldS ⟨#[104]⟩ (nmS zh) ++ ⟨#[62, 10]⟩
theorem hdS_list (zw zh : Int) : (hdS zw zh).data.toList = hdF zw zh := by
  unfold hdS hdF
  rw [hed_parts]
  simp only [ByteArray.data_append, Array.toList_append, fldS_list, nmS_list]
  simp
theorem hdS_size {zw zh : Int} (h1 : I64 zw) (h2 : I64 zh) : (hdS zw zh).size ≤ 1000 := by
  have := hd_len h1 h2
  rw [← hdS_list] at this
  simpa using this
theorem lnS_size {s : St} (h : WfS s) (ht : s.t.size ≤ 100000) : (lnS s).size ≤ 40003000 := by
  have := strF_len s h ht
  rw [← lnS_list] at this
  simpa using this
theorem texF_big {l : List St} {zw zh : Int} {k : Nat} (h : 65536 < (hdF zw zh ++ shpF (l.take k)).length) : 65536 < (texF l zw zh).length := by
  have e : (shpF l).length = (shpF (l.take k)).length + (shpF (l.drop k)).length := by rw [← List.length_append, ← shpF_app, List.take_append_drop]
  unfold texF
  rw [List.length_append] at h
  rw [List.length_append, List.length_append, e]
  omega

set_option maxRecDepth 10000 in
set_option maxHeartbeats 8000000 in
theorem rvtext_any (l : List St) (vl : Value) (zw zh : Int) (w : World) (hv : LsS w vl l) (hw : Wfs l) (h1 : I64 zw) (h2 : I64 zh) :
    Calls Tryd.prog 5 #[vl, .agg #[.int .i64 zw, .int .i64 zh]] w fun e w' => e = .returned (.tuple #[.string ⟨(texT l zw zh).toArray⟩, .int .i64 (texE l zw zh)]) ∧ Below w.heap.size w w' := by
  have HC : Hid (∀ W, Below w.heap.size w W → Calls Tryd.prog 14 #[vl] W fun e w' => e = .returned (.int .i64 (chkS l)) ∧ Below W.heap.size W w') := fun W hb => zcheck_any l vl W (hv.below hb) hw.txs
  have HZ : Hid (∀ W, Calls Tryd.prog 15 #[.agg #[.int .i64 zw, .int .i64 zh]] W fun e w' => e = .returned (.bool (sizB zw zh)) ∧ Below W.heap.size W w') := fun W => rsiz_any zw zh W h1 h2
  have HV : Hid (∀ W, Below w.heap.size w W → LsS W vl l) := fun W hb => hv.below hb
  have HN : Hid (∀ (n : Int) W, I64 n → Calls Tryd.prog 17 #[.int .i64 n] W fun e w' => e = .returned (.string (nmS n)) ∧ w' = W) := fun n W h => rnum_any n W h
  have HF : Hid (∀ (a : ByteArray) (n : Int) W, a.size ≤ 1000 → I64 n → Calls Tryd.prog 16 #[.string a, .string (nmS n)] W fun e w' => e = .returned (.string (fldS a (nmS n))) ∧ w' = W) := fun a n W h h' => field_any a (nmS n) W h (by have := nmS_size h'; omega)
  have HW : Hid (Wfs l ∧ I64 zw ∧ I64 zh) := ⟨hw, h1, h2⟩
  have B0 : Hid (Below w.heap.size w (w.alloc (.cells #[.int .i64 zw, .int .i64 zh] 24)) ∧ Bk (w.alloc (.cells #[.int .i64 zw, .int .i64 zh] 24)) w.heap.size #[.int .i64 zw, .int .i64 zh] 24) := ⟨(Below.refl _ w).alloc (Nat.le_refl _) _, Bk.new w _ _⟩
  obtain ⟨oa, cap, rfl, hcap, _⟩ := hv
  by_cases hc : ¬ chkS l = 0
  · have hE : texE l zw zh = chkS l := by unfold texE; rw [if_pos hc]
    have hTt : texT l zw zh = [] := by unfold texT; rw [if_neg (by rw [hE]; exact hc)]
    rw [hE, hTt]
    clear hE hTt
    have hc' : ((chkS l) == 0) = false := by rw [beq_eq_false_iff_ne]; exact hc
    generalize chkS l = E at *
    go_enter Tryd.func5, Tryd.ntmps5
    go_wp2_with fail
    refine (HC.out _ B0.out.1).mono ?_
    rintro e w1 ⟨rfl, hb1⟩
    have H1 : Hid (Below w.heap.size w w1) := B0.out.1.trans (hb1.mono B0.out.1.size)
    clear hb1 B0 HC
    go_wp2
    go_ret2
    exact ⟨rfl, H1.out⟩
  have hc0 : chkS l = 0 := Decidable.not_not.1 hc
  have HSm : Hid ((∀ s ∈ l, s.t.size ≤ 65536) ∧ l.length ≤ 16384) := chk_small hc0
  have hll := HSm.out.2
  have HE : Hid (texE l zw zh = if sizB zw zh = false then 9 else if 65536 < (texF l zw zh).length then 3 else 0) := by unfold Hid texE; rw [if_neg (by simp [hc0])]
  have HTt : Hid (texT l zw zh = if texE l zw zh = 0 then texF l zw zh else []) := rfl
  rw [hc0] at HC
  generalize texE l zw zh = E at *
  generalize texT l zw zh = Tt at *
  clear hc hc0 h1 h2 hw
  go_enter Tryd.func5, Tryd.ntmps5
  go_wp2_with fail
  refine (HC.out _ B0.out.1).mono ?_
  rintro e w1 ⟨rfl, hb1⟩
  have H1 : Hid (Below w.heap.size w w1 ∧ Bk w1 w.heap.size #[.int .i64 zw, .int .i64 zh] 24) := ⟨B0.out.1.trans (hb1.mono B0.out.1.size), B0.out.2.below hb1⟩
  clear hb1 B0 HC
  obtain ⟨c0, c1⟩ := H1.out.2.at2
  go_wp2_with fail
  refine (HZ.out _).mono ?_
  rintro e w2 ⟨rfl, hb2⟩
  have H2 : Hid (Below w.heap.size w w2 ∧ Bk w2 w.heap.size #[.int .i64 zw, .int .i64 zh] 24) := ⟨H1.out.1.trans (hb2.mono H1.out.1.size), H1.out.2.below hb2⟩
  clear hb2 H1 HZ c0 c1
  cases hz : sizB zw zh with
  | false =>
    rw [hz] at HE
    obtain rfl : E = 9 := HE.out
    obtain rfl : Tt = [] := HTt.out
    go_wp2
    go_ret2
    exact ⟨rfl, H2.out.1⟩
  | true =>
    rw [hz] at HE
    have HE' : Hid (E = if 65536 < (texF l zw zh).length then 3 else 0) := HE.out
    clear HE
    go_wp2_with fail
    obtain ⟨b, hb⟩ : ∃ b, b = w.heap.size := ⟨_, rfl⟩
    rw [← hb]
    have H2' : Hid (Below w.heap.size w w2 ∧ Bk w2 b #[.int .i64 zw, .int .i64 zh] 24) := by rw [hb]; exact H2.out
    clear H2 hb
    have i1 := HW.out.2.1
    have i2 := HW.out.2.2
    have s0 : (fldS ⟨#[119]⟩ (nmS zw)).size ≤ 30 := by rw [fldS_size]; have := nmS_size i1; have e : (⟨#[119]⟩ : ByteArray).size = 1 := rfl; omega
    have s1 : (fldS ⟨#[104]⟩ (nmS zh)).size ≤ 30 := by rw [fldS_size]; have := nmS_size i2; have e : (⟨#[104]⟩ : ByteArray).size = 1 := rfl; omega
    refine R4.wp_region_lit 12 0 2 (fun _ _ => undef) (fun _ => .cells #[] 0) [] (by kernel_rfl) (by kernel_rfl) rfl (fun k hk => absurd hk (by omega)) rfl ?_
    apply Exists.intro
    refine ⟨fun bs ne => ?_, fun i h1 h2 => absurd h2 (by omega), ?_⟩
    · have c0 := fun t : Gb w2 bs => (H2'.out.2.below t.below).at2.1
      have c1 := fun t : Gb w2 bs => (H2'.out.2.below t.below).at2.2
      simp only [List.take_succ_cons, List.take_zero]
      repeat (go_big_quiet_step (first
        | (go_at_call 17; exact gb_same (HN.out _ _ (by assumption)))
        | (go_at_call 16; exact gb_same (HF.out _ _ _ (by decide) (by assumption)))))
      exact wpQuiet_nil rfl
    · intro bl wx hbl _ _
      have HX3 : Hid (Below w.heap.size w wx) := H2'.out.1.trans (hbl.mono H2'.out.1.size)
      simp only [R4.layL]
      clear hbl s0 s1
      refine wpAny_one 12 (by kernel_rfl) rfl ?_
      intro K hK
      refine vtxt_step (by rfl) _ _ (by rfl) w.heap.size (.slice none 0 0) [] (hdS zw zh) (by rfl) (OwY.nil _ _) (by rfl) HX3.out.size (by have := hdS_size i1 i2; simp; omega) ?_
      intro v1 w3 h1 h2
      have H3 : Hid (SpW w.heap.size w zw zh l 0 v1 w3) := by
        rw [hdS_list, List.nil_append] at h1
        have hk := (KpY.of_below (Nat.le_refl _) HX3.out).trans h2
        exact ⟨by rw [List.take_zero]; simpa [shpF] using h1, hk, hk.b.size, by rw [List.take_zero]; have := hd_len i1 i2; simp [shpF]; omega⟩
      clear h1 h2 HX3 H2' HN HF i1 i2
      refine hK _ _ ?_
      clear hK K
      refine wpAny_one 13 (by kernel_rfl) rfl ?_
      intro K hK
      go_simp
      refine hK _ _ ?_
      clear hK K
      refine wpAny_done (by kernel_rfl) ?_ _
      go_wp2_with fail
      go_loopw [7, 8] (fun u0 i wr => ∃ (u : Value) (k : Nat), u = u0 ∧ k ≤ l.length ∧ i = .int .i64 k ∧ Hid (SpW w.heap.size w zw zh l k u wr)) (fun _ i _ => l.length - (intOf i).toNat)
      case atStart => exact ⟨_, 0, rfl, Nat.zero_le _, rfl, H3⟩
      case round =>
        obtain ⟨u, k, rfl, hk, rfl, HR⟩ := hrel
        clear H3
        by_cases hlt : k < l.length
        · obtain ⟨oa', cap', e0, _, hg⟩ := HV.out wr HR.out.kp.b
          injection e0 with e1 e2 e3
          subst e1 e3
          obtain ⟨g, o, rfl, hgl, hat⟩ := hg (by omega)
          have hx := hat k hlt
          obtain ⟨x, hxe⟩ : ∃ x, x = l[k] := ⟨_, rfl⟩
          have HX : Hid (WfS x ∧ x.t.size ≤ 100000 ∧ l.take (k + 1) = l.take k ++ [x]) := ⟨by rw [hxe]; exact HW.out.1 _ (List.getElem_mem _), by rw [hxe]; have := HSm.out.1 _ (List.getElem_mem hlt); omega, by rw [hxe, List.take_succ_eq_append_getElem hlt]⟩
          rw [← hxe] at hx
          obtain ⟨x0, x1, x2, x3, x4, x5, x6, x7, x8, x9, x10, x11, x12, x13, x14⟩ := hx
          have HLn : Hid (∀ W, Calls Tryd.prog 18 #[(Value.agg #[.int .u8 x.k, .int .i64 x.r.x, .int .i64 x.r.y, .int .i64 x.r.w, .int .i64 x.r.h, .int .u8 x.c.r, .int .u8 x.c.g, .int .u8 x.c.b, .int .u8 x.c.a, .int .u8 x.b.r, .int .u8 x.b.g, .int .u8 x.b.b, .int .u8 x.b.a, .string x.t, .int .i64 x.n])] W fun e w' => e = .returned (.string (lnS x)) ∧ Below W.heap.size W w') := fun W => rline_any x W HX.out.1 HX.out.2.1
          clear hg hat hxe e2
          go_wp2_with fail
          refine (HLn.out _).mono ?_
          rintro e w4 ⟨rfl, hb4⟩
          have H4 : Hid (SpW w.heap.size w zw zh l k u w4) := ⟨HR.out.ow.below hb4, HR.out.kp.trans (KpY.of_below HR.out.sz hb4), Nat.le_trans HR.out.sz hb4.size, HR.out.ln⟩
          clear hb4 HR HLn x0 x1 x2 x3 x4 x5 x6 x7 x8 x9 x10 x11 x12 x13 x14 hgl
          go_wp2_with (at_builtin; refine app_txt rfl _ _ rfl w.heap.size u (hdF zw zh ++ shpF (l.take k)) (lnS x) rfl H4.out.ow rfl H4.out.sz (by have := H4.out.ln; have := lnS_size HX.out.1 HX.out.2.1; omega) ?_)
          intro v5 w5 h1 h2
          obtain ⟨N, hN⟩ : ∃ N, N = (hdF zw zh ++ shpF (l.take (k + 1))).length := ⟨_, rfl⟩
          have eq : hdF zw zh ++ (shpF (l.take k) ++ (lnS x).data.toList) = hdF zw zh ++ shpF (l.take (k + 1)) := by
            rw [HX.out.2.2, shpF_app, lnS_list]
            congr 2
            simp [shpF]
          rw [eq] at h1
          have hk5 := H4.out.kp.trans h2
          have hO : w5.ownsRow w.heap.size 5 1 v5 N (Lib.byteCells (hdF zw zh ++ shpF (l.take (k + 1)))) := by rw [hN]; exact h1
          have H5 : Hid (OwY w.heap.size w5 v5 (hdF zw zh ++ shpF (l.take (k + 1))) ∧ KpY w.heap.size w w5 ∧ w.heap.size ≤ w5.heap.size ∧ N = (hdF zw zh ++ shpF (l.take (k + 1))).length) := ⟨h1, hk5, hk5.b.size, hN⟩
          obtain ⟨ou, cu, rfl, hcu, _⟩ := row_val hO
          clear hO h1 h2 hk5 eq hN H4 HX
          by_cases hbig : 65536 < N
          · have hb1 : 65536 < (N : Int) := by omega
            obtain rfl : E = 3 := by rw [HE'.out, if_pos (texF_big (k := k + 1) (by rw [← H5.out.2.2.2]; exact hbig))]
            obtain rfl : Tt = [] := HTt.out
            have HB : Hid (Below w.heap.size w w5) := H5.out.2.1.b
            clear H5
            go_wp2
            go_ret2
            exact ⟨rfl, HB.out⟩
          · have hb1 : ¬ (65536 < (N : Int)) := by omega
            have HFin : Hid (SpW w.heap.size w zw zh l (k + 1) (.slice ou N cu) w5) := ⟨H5.out.1, H5.out.2.1, H5.out.2.2.1, by have := H5.out.2.2.2; omega⟩
            clear H5
            go_wp2
            go_roundw
            case rel => exact ⟨_, k + 1, rfl, by omega, by go_num, HFin⟩
            case measure => simp [intOf]; omega
        · obtain rfl : k = l.length := by omega
          have HO : Hid (OwY w.heap.size wr u (hdF zw zh ++ shpF l) ∧ KpY w.heap.size w wr ∧ w.heap.size ≤ wr.heap.size ∧ (hdF zw zh ++ shpF l).length ≤ 200000000) := by
            have q := HR.out
            have q1 := q.ow
            have q4 := q.ln
            rw [List.take_length] at q1 q4
            exact ⟨q1, q.kp, q.sz, q4⟩
          clear HR
          go_wp2_with (at_builtin; refine app_txt rfl _ _ rfl w.heap.size u (hdF zw zh ++ shpF l) ⟨lstF.toArray⟩ rfl HO.out.1 rfl HO.out.2.2.1 (by have := HO.out.2.2.2; have e : (⟨lstF.toArray⟩ : ByteArray).size = 10 := rfl; omega) ?_)
          intro v5 w5 h1 h2
          have h1' : OwY w.heap.size w5 v5 (texF l zw zh) := by unfold texF; rw [List.append_assoc]; exact h1
          obtain ⟨R, hR⟩ : ∃ R, R = texF l zw zh := ⟨_, rfl⟩
          rw [← hR] at h1' HE' HTt
          obtain ⟨N, hN⟩ : ∃ N, N = R.length := ⟨_, rfl⟩
          have hO : w5.ownsRow w.heap.size 5 1 v5 N (Lib.byteCells R) := by rw [hN]; exact h1'
          have hcv := conv_bytes h1'
          obtain ⟨ou, cu, rfl, hcu, _⟩ := row_val hO
          have H5 : Hid (Below w.heap.size w w5) := HO.out.2.1.b.trans h2.b
          clear hO h1 h1' h2 HO hR
          rw [← hN] at HE'
          by_cases hbig : 65536 < N
          · have hb1 : 65536 < (N : Int) := by omega
            obtain rfl : E = 3 := by rw [HE'.out, if_pos hbig]
            obtain rfl : Tt = [] := HTt.out
            go_wp2
            go_ret2
            exact ⟨rfl, H5.out⟩
          · have hb1 : ¬ (65536 < (N : Int)) := by omega
            obtain rfl : E = 0 := by rw [HE'.out, if_neg hbig]
            obtain rfl : R = Tt := HTt.out.symm
            clear hN
            go_wp2
            go_ret2
            exact ⟨rfl, H5.out⟩

end Go.Proofs.YtooolcldiecfjaaDoor

/-
  Contracts of package vector: firstByte, Plain.
-/
namespace Go.Proofs.YtooolcldiecfjaaDoor
open Go.RowKit

def hexL : List UInt8 := [48, 49, 50, 51, 52, 53, 54, 55, 56, 57, 97, 98, 99, 100, 101, 102]
/-- A small sixteen's worth. -/
def sxI (c : Nat) : Int := Lib.indexByte hexL c.toUInt8
theorem sxI_fin : ∀ c : Fin 256, -1 ≤ sxI c.val ∧ sxI c.val ≤ 15 := by decide +kernel
theorem sxI_bd {c : Nat} (h : c < 256) : -1 ≤ sxI c ∧ sxI c ≤ 15 := sxI_fin ⟨c, h⟩
/-- The byte at a place. -/
def byA (s : ByteArray) (p : Nat) : Nat := if h : p < s.size then (s[p]).toNat else 0
theorem byA_at {s : ByteArray} {p : Nat} (h : p < s.size) : byA s p = (s[p]).toNat := by unfold byA; rw [dif_pos h]
theorem byA_lt (s : ByteArray) (p : Nat) : byA s p < 256 := by
  unfold byA
  split
  · exact UInt8.toNat_lt _
  · decide
theorem byA_ext (s : ByteArray) (p q : Nat) (h : p ≤ s.size) : byA (s.extract p s.size) q = byA s (p + q) := by
  by_cases hq : p + q < s.size
  · have h' : q < (s.extract p s.size).size := by simp; omega
    rw [byA_at hq, byA_at h']
    congr 1
    exact ByteArray.getElem_extract h'
  · have h' : ¬ q < (s.extract p s.size).size := by simp; omega
    unfold byA
    rw [dif_neg hq, dif_neg h']
/-- The first byte of what was escaped, and how many bytes tell it. -/
def fsP (s : ByteArray) (p : Nat) : Nat × Nat :=
  if s.size ≤ p then (0, 0) else if stD (byA s p) = true then (byA s p, 1)
  else if s.size < p + 4 ∨ byA s p ≠ 38 ∨ byA s (p + 3) ≠ 59 ∨ sxI (byA s (p + 1)) < 0 ∨ sxI (byA s (p + 2)) < 0 then (0, 0)
  else if stD (16 * (sxI (byA s (p + 1))).toNat + (sxI (byA s (p + 2))).toNat) = true then (0, 0)
  else (16 * (sxI (byA s (p + 1))).toNat + (sxI (byA s (p + 2))).toNat, 4)
theorem fsP_ext (s : ByteArray) (p : Nat) (h : p ≤ s.size) : fsP (s.extract p s.size) 0 = fsP s p := by
  have hz : (s.extract p s.size).size = s.size - p := by simp
  have a1 : ((s.extract p s.size).size ≤ 0) = (s.size ≤ p) := by rw [hz]; exact propext ⟨fun h => by omega, fun h => by omega⟩
  have a2 : ((s.extract p s.size).size < 0 + 4) = (s.size < p + 4) := by rw [hz]; exact propext ⟨fun h => by omega, fun h => by omega⟩
  unfold fsP
  simp only [a1, a2, byA_ext s p _ h, Nat.zero_add, Nat.add_zero]
theorem fsP_bd (s : ByteArray) (p : Nat) : (fsP s p).1 < 256 ∧ (fsP s p).2 ≤ 4 ∧ ((fsP s p).2 ≠ 0 → p + (fsP s p).2 ≤ s.size) := by
  have b1 := sxI_bd (byA_lt s (p + 1))
  have b2 := sxI_bd (byA_lt s (p + 2))
  have b3 := byA_lt s p
  unfold fsP
  split
  · exact ⟨by decide, by decide, fun h => absurd rfl h⟩
  · split
    · exact ⟨b3, by omega, fun _ => by omega⟩
    · split
      · exact ⟨by decide, by decide, fun h => absurd rfl h⟩
      · split
        · exact ⟨by decide, by decide, fun h => absurd rfl h⟩
        · exact ⟨by show 16 * _ + _ < 256; omega, by omega, fun _ => by omega⟩

theorem bdrw (w : World) : ∀ n, Below w.heap.size w (w.drewN n)
  | 0 => Below.refl _ _
  | n + 1 => (bdrw w n).drew
theorem or_sx : ∀ h k : Fin 16, bits .or .i64 ((h.val : Int) * 16) (k.val : Int) = (16 * h.val + k.val : Nat) := by decide +kernel

set_option maxRecDepth 10000 in
set_option maxHeartbeats 4000000 in
theorem fsb_any (s : ByteArray) (w : World) (h0 : 0 < s.size) (hs : s.size ≤ 9223372036854775807) :
    Calls Tryd.prog 19 #[.string s] w fun e w' => e = .returned (.tuple #[.int .u8 (fsP s 0).1, .int .i64 (fsP s 0).2]) ∧ Below w.heap.size w w' := by
  have HS : Hid (∀ (k : Nat) W, k < 256 → Calls Tryd.prog 30 #[.int .u8 k] W fun e w' => e = .returned (.bool (stD k)) ∧ w' = W) := fun k W hk => stands_any k W hk
  have HI : Hid (∀ (c : Nat) W, Calls Tryd.prog 31 #[.string ⟨#[48, 49, 50, 51, 52, 53, 54, 55, 56, 57, 97, 98, 99, 100, 101, 102]⟩, .int .u8 c] W fun e w' => e = .returned (.int .i64 (sxI c)) ∧ w' = W) := fun c W => Any.strings_IndexByte Tryd.lays137 ⟨#[48, 49, 50, 51, 52, 53, 54, 55, 56, 57, 97, 98, 99, 100, 101, 102]⟩ (c : Int) W
  obtain ⟨F, hF⟩ : ∃ F, F = fsP s 0 := ⟨_, rfl⟩
  have HF : Hid (F = fsP s 0) := hF
  rw [← hF]
  clear hF
  have hb0 := UInt8.toNat_lt s[0]
  have h0' : (0 : Int) < s.size := by omega
  cases hst : stD (s[0]).toNat with
  | true =>
    have e : F = ((s[0]).toNat, 1) := by
      rw [HF.out]
      unfold fsP
      rw [if_neg (by omega), byA_at h0, if_pos hst]
    rw [e]
    clear HF e
    go_enter Tryd.func19, Tryd.ntmps19
    go_wp2_with (go_at_call 30; refine (HS.out _ _ (by assumption)).mono ?_; rintro e w' ⟨rfl, hw⟩; obtain rfl := hw.symm)
    go_ret2
    exact ⟨rfl, by first | exact Below.refl _ _ | exact bdrw w _⟩
  | false =>
    have e : F = if s.size < 4 ∨ (s[0]).toNat ≠ 38 ∨ byA s 3 ≠ 59 ∨ sxI (byA s 1) < 0 ∨ sxI (byA s 2) < 0 then (0, 0) else if stD (16 * (sxI (byA s 1)).toNat + (sxI (byA s 2)).toNat) = true then (0, 0) else (16 * (sxI (byA s 1)).toNat + (sxI (byA s 2)).toNat, 4) := by
      rw [HF.out]
      unfold fsP
      rw [if_neg (by omega), byA_at h0, if_neg (by simp [hst])]
    have HE := show Hid _ from e
    clear HF e
    by_cases h4 : s.size < 4
    · have h4' : (s.size : Int) < 4 := by omega
      obtain rfl : F = (0, 0) := by rw [HE.out, if_pos (.inl h4)]
      go_enter Tryd.func19, Tryd.ntmps19
      go_wp2_with (go_at_call 30; refine (HS.out _ _ (by assumption)).mono ?_; rintro e w' ⟨rfl, hw⟩; obtain rfl := hw.symm)
      go_ret2
      exact ⟨rfl, by first | exact Below.refl _ _ | exact bdrw w _⟩
    have h4' : ¬ ((s.size : Int) < 4) := by omega
    have d4 : decide ((s.size : Int) < 4) = false := decide_eq_false h4'
    have h3' : (3 : Int) < s.size := by omega
    have h2' : (2 : Int) < s.size := by omega
    have h1' : (1 : Int) < s.size := by omega
    have h3 : 3 < s.size := by omega
    have h2 : 2 < s.size := by omega
    have h1 : 1 < s.size := by omega
    rw [byA_at h3, byA_at h2, byA_at h1] at HE
    have hb1 := UInt8.toNat_lt s[1]
    have hb2 := UInt8.toNat_lt s[2]
    by_cases h38 : ¬ (s[0]).toNat = 38
    · have g38 : (((s[0]).toNat : Int) == 38) = false := by rw [beq_eq_false_iff_ne]; omega
      obtain rfl : F = (0, 0) := by rw [HE.out, if_pos (.inr (.inl h38))]
      go_enter Tryd.func19, Tryd.ntmps19
      go_wp2_with (go_at_call 30; refine (HS.out _ _ (by assumption)).mono ?_; rintro e w' ⟨rfl, hw⟩; obtain rfl := hw.symm)
      go_ret2
      exact ⟨rfl, by first | exact Below.refl _ _ | exact bdrw w _⟩
    have g38 : ((s[0]).toNat : Int) = 38 := by omega
    have H38 : Hid (∀ W, Calls Tryd.prog 30 #[.int .u8 38] W fun e w' => e = .returned (.bool false) ∧ w' = W) := fun W => HS.out 38 W (by decide)
    clear hst
    have h38' : (s[0]).toNat = 38 := by omega
    by_cases h59 : ¬ (s[3]).toNat = 59
    · have g59 : (((s[3]).toNat : Int) != 59) = true := by rw [bne_iff_ne]; omega
      obtain rfl : F = (0, 0) := by rw [HE.out, if_pos (.inr (.inr (.inl h59)))]
      go_enter Tryd.func19, Tryd.ntmps19
      go_wp2_with (go_at_call 30; refine (H38.out _).mono ?_; rintro e w' ⟨rfl, hw⟩; obtain rfl := hw.symm)
      go_ret2
      exact ⟨rfl, by first | exact Below.refl _ _ | exact bdrw w _⟩
    have g59 : ((s[3]).toNat : Int) = 59 := by omega
    have h59' : (s[3]).toNat = 59 := by omega
    have bd1 := sxI_bd hb1
    have bd2 := sxI_bd hb2
    by_cases hA0 : sxI (s[1]).toNat < 0
    · obtain rfl : F = (0, 0) := by rw [HE.out, if_pos (.inr (.inr (.inr (.inl hA0))))]
      go_enter Tryd.func19, Tryd.ntmps19
      go_wp2_with (go_at_call 30; refine (H38.out _).mono ?_; rintro e w' ⟨rfl, hw⟩; obtain rfl := hw.symm)
      go_quiet (first | (go_at_call 31; exact Calls.quiet_of_same (HI.out _ _)))
      go_wp2
      go_ret2
      exact ⟨rfl, by first | exact Below.refl _ _ | exact bdrw w _⟩
    by_cases hB0 : sxI (s[2]).toNat < 0
    · obtain rfl : F = (0, 0) := by rw [HE.out, if_pos (.inr (.inr (.inr (.inr hB0))))]
      go_enter Tryd.func19, Tryd.ntmps19
      go_wp2_with (go_at_call 30; refine (H38.out _).mono ?_; rintro e w' ⟨rfl, hw⟩; obtain rfl := hw.symm)
      go_quiet (first | (go_at_call 31; exact Calls.quiet_of_same (HI.out _ _)))
      go_wp2
      go_ret2
      exact ⟨rfl, by first | exact Below.refl _ _ | exact bdrw w _⟩
    obtain ⟨A, hA⟩ : ∃ A : Nat, sxI (s[1]).toNat = A := ⟨(sxI (s[1]).toNat).toNat, (Int.toNat_of_nonneg (by omega)).symm⟩
    obtain ⟨B, hB⟩ : ∃ B : Nat, sxI (s[2]).toNat = B := ⟨(sxI (s[2]).toNat).toNat, (Int.toNat_of_nonneg (by omega)).symm⟩
    rw [hA, hB] at HE
    rw [hA] at bd1
    rw [hB] at bd2
    have hA16 : A < 16 := by omega
    have hB16 : B < 16 := by omega
    have hor := or_sx ⟨A, hA16⟩ ⟨B, hB16⟩
    simp only at hor
    have hn1 : ¬ ((A : Int) < 0) := by omega
    have hn2 : ¬ ((B : Int) < 0) := by omega
    have HV : Hid (∀ W, Calls Tryd.prog 30 #[.int .u8 (16 * (A : Int) + (B : Int))] W fun e w' => e = .returned (.bool (stD (16 * A + B))) ∧ w' = W) := fun W => by
      rw [show 16 * (A : Int) + (B : Int) = ((16 * A + B : Nat) : Int) by omega]
      exact HS.out _ W (by omega)
    have HE2 : Hid (F = if stD (16 * A + B) = true then (0, 0) else (16 * A + B, 4)) := by
      unfold Hid
      have := HE.out
      rw [if_neg (by simp [h38', h59']; omega)] at this
      simpa using this
    clear HE HS
    cases hv : stD (16 * A + B) with
    | true =>
      rw [hv] at HV
      obtain rfl : F = (0, 0) := by rw [HE2.out, if_pos hv]
      clear HE2 hv
      go_enter Tryd.func19, Tryd.ntmps19
      go_wp2_with (go_at_call 30; refine (H38.out _).mono ?_; rintro e w' ⟨rfl, hw⟩; obtain rfl := hw.symm)
      go_quiet (first | (go_at_call 31; exact Calls.quiet_of_same (HI.out _ _)))
      simp only [hA, hB]
      go_wp2_with (go_at_call 30; refine (HV.out _).mono ?_; rintro e w' ⟨rfl, hw⟩; obtain rfl := hw.symm)
      go_ret2
      exact ⟨rfl, bdrw w _⟩
    | false =>
      rw [hv] at HV
      obtain rfl : F = (16 * A + B, 4) := by rw [HE2.out, if_neg (by simp [hv])]
      clear HE2 hv
      go_enter Tryd.func19, Tryd.ntmps19
      go_wp2_with (go_at_call 30; refine (H38.out _).mono ?_; rintro e w' ⟨rfl, hw⟩; obtain rfl := hw.symm)
      go_quiet (first | (go_at_call 31; exact Calls.quiet_of_same (HI.out _ _)))
      simp only [hA, hB]
      go_wp2_with (go_at_call 30; refine (HV.out _).mono ?_; rintro e w' ⟨rfl, hw⟩; obtain rfl := hw.symm)
      go_ret2
      exact ⟨by simp, bdrw w _⟩

end Go.Proofs.YtooolcldiecfjaaDoor

/-
  Contracts of the document's answer for layer 16: small, escape.
-/
namespace Go.Proofs.YtooolcldiecfjaaDoor
open Go.RowKit

theorem sx_eq : ∀ c : Fin 256, sxI c.val = if 48 ≤ c.val ∧ c.val ≤ 57 then (c.val : Int) - 48 else if 97 ≤ c.val ∧ c.val ≤ 102 then (c.val : Int) - 87 else -1 := by decide +kernel

set_option maxHeartbeats 1000000 in
theorem rsmall_any (b : Nat) (w : World) (hb : b < 256) :
    Calls Tryd.prog 32 #[.int .u8 b] w fun e w' => e = .returned (.int .i64 (sxI b)) ∧ w' = w := by
  have e := sx_eq ⟨b, hb⟩
  simp only at e
  rw [e]
  clear e
  have cs : (48 ≤ b ∧ b ≤ 57) ∨ (97 ≤ b ∧ b ≤ 102) ∨ b < 48 ∨ (57 < b ∧ b < 97) ∨ 102 < b := by omega
  rcases cs with ⟨c1, c2⟩ | ⟨c1, c2⟩ | c1 | ⟨c1, c2⟩ | c1
  · rw [if_pos ⟨c1, c2⟩]
    go_enter Tryd.func32, Tryd.ntmps32
    go_wp2
    go_ret
    exact ⟨ret_int (by omega), rfl⟩
  · rw [if_neg (by omega), if_pos ⟨c1, c2⟩]
    go_enter Tryd.func32, Tryd.ntmps32
    go_wp2
    go_ret
    exact ⟨ret_int (by omega), rfl⟩
  all_goals
    rw [if_neg (by omega), if_neg (by omega)]
    go_enter Tryd.func32, Tryd.ntmps32
    go_wp2
    go_ret
    exact ⟨rfl, rfl⟩

/-- What four bytes are, where the first does not stand itself. -/
def escP (s : ByteArray) (p : Nat) : Int :=
  if s.size < p + 4 ∨ byA s p ≠ 38 ∨ byA s (p + 3) ≠ 59 ∨ sxI (byA s (p + 1)) < 0 ∨ sxI (byA s (p + 2)) < 0 then -1
  else if stD (16 * (sxI (byA s (p + 1))).toNat + (sxI (byA s (p + 2))).toNat) = true then -1
  else ((16 * (sxI (byA s (p + 1))).toNat + (sxI (byA s (p + 2))).toNat : Nat) : Int)
theorem escP_fs {s : ByteArray} {p : Nat} (h : p < s.size) (hs : stD (byA s p) = false) : (escP s p < 0 → escP s p = -1 ∧ (fsP s p).2 = 0) ∧ (¬ escP s p < 0 → escP s p = (fsP s p).1 ∧ (fsP s p).2 = 4) := by
  unfold escP fsP
  rw [if_neg (show ¬ s.size ≤ p by omega), if_neg (show ¬ stD (byA s p) = true by simp [hs])]
  split
  · exact ⟨fun _ => ⟨rfl, rfl⟩, fun h => absurd (by decide) h⟩
  · split
    · exact ⟨fun _ => ⟨rfl, rfl⟩, fun h => absurd (by decide) h⟩
    · exact ⟨fun h => by omega, fun _ => ⟨rfl, rfl⟩⟩

set_option maxRecDepth 10000 in
set_option maxHeartbeats 4000000 in
theorem resc_any (s : ByteArray) (p : Nat) (w : World) (h0 : p < s.size) (hs : s.size ≤ 9223372036854775000) :
    Calls Tryd.prog 21 #[.string s, .int .i64 p] w fun e w' => e = .returned (.int .i64 (escP s p)) ∧ Below w.heap.size w w' := by
  have HS : Hid (∀ (k : Nat) W, k < 256 → Calls Tryd.prog 20 #[.int .u8 k] W fun e w' => e = .returned (.bool (stD k)) ∧ w' = W) := fun k W hk => rstands_any k W hk
  have HI : Hid (∀ (c : Nat) W, c < 256 → Calls Tryd.prog 32 #[.int .u8 c] W fun e w' => e = .returned (.int .i64 (sxI c)) ∧ w' = W) := fun c W h => rsmall_any c W h
  obtain ⟨F, hF⟩ : ∃ F, F = escP s p := ⟨_, rfl⟩
  have HF : Hid (F = escP s p) := hF
  rw [← hF]
  clear hF
  by_cases h4 : s.size < p + 4
  · obtain rfl : F = -1 := by rw [HF.out]; unfold escP; rw [if_pos (.inl h4)]
    have h4' : (s.size : Int) < p + 4 := by omega
    go_enter Tryd.func21, Tryd.ntmps21
    go_wp2
    go_ret
    exact ⟨rfl, Below.refl _ _⟩
  have h4' : ¬ ((s.size : Int) < p + 4) := by omega
  have d4 : decide ((s.size : Int) < p + 4) = false := decide_eq_false h4'
  have hp3 : p + 3 < s.size := by omega
  have hp2 : p + 2 < s.size := by omega
  have hp1 : p + 1 < s.size := by omega
  have hb0 := UInt8.toNat_lt s[p]
  have hb1 := UInt8.toNat_lt s[p + 1]
  have hb2 := UInt8.toNat_lt s[p + 2]
  have hb3 := UInt8.toNat_lt s[p + 3]
  have HE : Hid (F = if (s[p]).toNat ≠ 38 ∨ (s[p + 3]).toNat ≠ 59 ∨ sxI (s[p + 1]).toNat < 0 ∨ sxI (s[p + 2]).toNat < 0 then -1 else if stD (16 * (sxI (s[p + 1]).toNat).toNat + (sxI (s[p + 2]).toNat).toNat) = true then -1 else ((16 * (sxI (s[p + 1]).toNat).toNat + (sxI (s[p + 2]).toNat).toNat : Nat) : Int)) := by
    unfold Hid
    rw [HF.out]
    unfold escP
    rw [byA_at h0, byA_at hp1, byA_at hp2, byA_at hp3]
    simp only [show ¬ s.size < p + 4 from h4, false_or]
  clear HF
  by_cases h38 : ¬ (s[p]).toNat = 38
  · have g38 : (((s[p]).toNat : Int) != 38) = true := by rw [bne_iff_ne]; omega
    obtain rfl : F = -1 := by rw [HE.out, if_pos (.inl h38)]
    go_enter Tryd.func21, Tryd.ntmps21
    go_wp2
    go_ret
    exact ⟨rfl, Below.refl _ _⟩
  have g38 : ((s[p]).toNat : Int) = 38 := by omega
  have h38' : (s[p]).toNat = 38 := by omega
  by_cases h59 : ¬ (s[p + 3]).toNat = 59
  · have g59 : (((s[p + 3]).toNat : Int) != 59) = true := by rw [bne_iff_ne]; omega
    obtain rfl : F = -1 := by rw [HE.out, if_pos (.inr (.inl h59))]
    go_enter Tryd.func21, Tryd.ntmps21
    go_wp2
    go_ret
    exact ⟨rfl, Below.refl _ _⟩
  have g59 : ((s[p + 3]).toNat : Int) = 59 := by omega
  have h59' : (s[p + 3]).toNat = 59 := by omega
  have bd1 := sxI_bd hb1
  have bd2 := sxI_bd hb2
  by_cases hA0 : sxI (s[p + 1]).toNat < 0
  · obtain rfl : F = -1 := by rw [HE.out, if_pos (.inr (.inr (.inl hA0)))]
    go_enter Tryd.func21, Tryd.ntmps21
    go_wp2_with (go_at_call 32; refine (HI.out _ _ (by assumption)).mono ?_; rintro e w' ⟨rfl, hw⟩; obtain rfl := hw.symm)
    go_ret
    exact ⟨rfl, Below.refl _ _⟩
  by_cases hB0 : sxI (s[p + 2]).toNat < 0
  · obtain rfl : F = -1 := by rw [HE.out, if_pos (.inr (.inr (.inr hB0)))]
    go_enter Tryd.func21, Tryd.ntmps21
    go_wp2_with (go_at_call 32; refine (HI.out _ _ (by assumption)).mono ?_; rintro e w' ⟨rfl, hw⟩; obtain rfl := hw.symm)
    go_ret
    exact ⟨rfl, Below.refl _ _⟩
  obtain ⟨A, hA⟩ : ∃ A : Nat, sxI (s[p + 1]).toNat = A := ⟨(sxI (s[p + 1]).toNat).toNat, (Int.toNat_of_nonneg (by omega)).symm⟩
  obtain ⟨B, hB⟩ : ∃ B : Nat, sxI (s[p + 2]).toNat = B := ⟨(sxI (s[p + 2]).toNat).toNat, (Int.toNat_of_nonneg (by omega)).symm⟩
  have HE2 : Hid (F = if stD (16 * A + B) = true then -1 else ((16 * A + B : Nat) : Int)) := by
    unfold Hid
    have := HE.out
    rw [hA, hB, if_neg (by simp [h38', h59'])] at this
    simpa using this
  rw [hA] at bd1
  rw [hB] at bd2
  have hA16 : A < 16 := by omega
  have hB16 : B < 16 := by omega
  have hn1 : ¬ ((A : Int) < 0) := by omega
  have hn2 : ¬ ((B : Int) < 0) := by omega
  have HIA : Hid (∀ W, Calls Tryd.prog 32 #[.int .u8 (s[p + 1]).toNat] W fun e w' => e = .returned (.int .i64 A) ∧ w' = W) := fun W => by rw [← hA]; exact HI.out _ W hb1
  have HIB : Hid (∀ W, Calls Tryd.prog 32 #[.int .u8 (s[p + 2]).toNat] W fun e w' => e = .returned (.int .i64 B) ∧ w' = W) := fun W => by rw [← hB]; exact HI.out _ W hb2
  have HV : Hid (∀ W, Calls Tryd.prog 20 #[.int .u8 (16 * (A : Int) + (B : Int))] W fun e w' => e = .returned (.bool (stD (16 * A + B))) ∧ w' = W) := fun W => by
    rw [show 16 * (A : Int) + (B : Int) = ((16 * A + B : Nat) : Int) by omega]
    exact HS.out _ W (by omega)
  clear HE HS hA0 hB0
  go_enter Tryd.func21, Tryd.ntmps21
  go_wp2_with (go_at_call 32; refine (HI.out _ _ (by assumption)).mono ?_; rintro e w' ⟨rfl, hw⟩; obtain rfl := hw.symm)
  go_quiet (first | (go_at_call 32; exact Calls.quiet_of_same (HI.out _ _ (by assumption))))
  simp only [hA, hB]
  cases hv : stD (16 * A + B) with
  | true =>
    rw [hv] at HV
    obtain rfl : F = -1 := by rw [HE2.out, if_pos hv]
    clear HE2 hv
    go_wp2_with (go_at_call 20; refine (HV.out _).mono ?_; rintro e w' ⟨rfl, hw⟩; obtain rfl := hw.symm)
    go_ret
    exact ⟨rfl, bdrw w _⟩
  | false =>
    rw [hv] at HV
    obtain rfl : F = ((16 * A + B : Nat) : Int) := by rw [HE2.out, if_neg (by simp [hv])]
    clear HE2 hv
    go_wp2_with (go_at_call 20; refine (HV.out _).mono ?_; rintro e w' ⟨rfl, hw⟩; obtain rfl := hw.symm)
    go_ret
    exact ⟨ret_int (by omega), bdrw w _⟩

end Go.Proofs.YtooolcldiecfjaaDoor

/-
  Contracts of package vector: Plain.
-/
namespace Go.Proofs.YtooolcldiecfjaaDoor
open Go.RowKit

/-- What a text was that was escaped, from a place on; how far that is right. -/
def vpF (s : ByteArray) : Nat → Nat → List UInt8 → List UInt8 × Nat × Int
  | 0, _, acc => (acc, 0, 0)
  | f + 1, p, acc => if s.size ≤ p then (acc, 0, 0) else if (fsP s p).2 = 0 then ([], p, 160) else vpF s f (p + (fsP s p).2) (acc ++ [UInt8.ofNat (fsP s p).1])
def vpA (s : ByteArray) : List UInt8 × Nat × Int := vpF s (s.size + 1) 0 []
theorem vpF_step {s : ByteArray} {f p : Nat} {acc : List UInt8} (h : p < s.size) : ((fsP s p).2 = 0 → vpF s (f + 1) p acc = ([], p, 160)) ∧ ((fsP s p).2 ≠ 0 → vpF s (f + 1) p acc = vpF s f (p + (fsP s p).2) (acc ++ [UInt8.ofNat (fsP s p).1])) := by
  exact ⟨fun h0 => by rw [vpF, if_neg (by omega), if_pos h0], fun h0 => by rw [vpF, if_neg (by omega), if_neg h0]⟩
theorem vpF_end {s : ByteArray} {f p : Nat} {acc : List UInt8} (h : s.size ≤ p) : vpF s f p acc = (acc, 0, 0) := by
  cases f with
  | zero => rfl
  | succ f => rw [vpF, if_pos h]

/-- What lies so far of a text that is read. -/
structure VpW (w : World) (s : ByteArray) (p : Nat) (u : Value) (acc : List UInt8) (f : Nat) (wr : World) : Prop where
  ow : OwY w.heap.size wr u acc
  bl : Below w.heap.size w wr
  eq : vpA s = vpF s f p acc
  fu : s.size < f + p
  ln : acc.length ≤ p

set_option maxRecDepth 10000 in
set_option maxHeartbeats 4000000 in
theorem vplain_any (s : ByteArray) (w : World) (hs : s.size ≤ 140000000000000) :
    Calls Tryd.prog 6 #[.string s] w fun e w' => e = .returned (.tuple #[.string ⟨(vpA s).1.toArray⟩, .int .i64 ((vpA s).2.1 : Nat), .int .i64 (vpA s).2.2]) ∧ Below w.heap.size w w' := by
  have H0 : Hid (VpW w s 0 (.slice none 0 0) [] (s.size + 1) w) := ⟨OwY.nil _ _, Below.refl _ _, rfl, by omega, Nat.le_refl _⟩
  have HFb : Hid (∀ (q : ByteArray) W, 0 < q.size → q.size ≤ 9223372036854775807 → Calls Tryd.prog 19 #[.string q] W fun e w' => e = .returned (.tuple #[.int .u8 (fsP q 0).1, .int .i64 (fsP q 0).2]) ∧ Below W.heap.size W w') := fun q W h1 h2 => fsb_any q W h1 h2
  obtain ⟨R, hR⟩ : ∃ R, R = vpA s := ⟨_, rfl⟩
  have HR : Hid (R = vpA s) := hR
  rw [← hR]
  clear hR
  go_enter Tryd.func6, Tryd.ntmps6
  go_wp2_with fail
  go_loopw [5, 6] (fun u0 i wr => ∃ (u : Value) (k f : Nat) (acc : List UInt8), u = u0 ∧ k ≤ s.size ∧ i = .int .i64 k ∧ Hid (VpW w s k u acc f wr)) (fun _ i _ => s.size - (intOf i).toNat)
  case atStart => exact ⟨_, 0, _, [], rfl, Nat.zero_le _, rfl, H0⟩
  case round =>
    obtain ⟨u, k, f, acc, rfl, hk, rfl, HW⟩ := hrel
    clear H0
    by_cases hlt : k < s.size
    · have hz : (s.extract k s.size).size = s.size - k := by simp
      have HQ : Hid (∀ W, Calls Tryd.prog 19 #[.string (s.extract k s.size)] W fun e w' => e = .returned (.tuple #[.int .u8 (fsP s k).1, .int .i64 (fsP s k).2]) ∧ Below W.heap.size W w') := fun W => by
        have := HFb.out (s.extract k s.size) W (by omega) (by omega)
        rw [fsP_ext s k (by omega)] at this
        exact this
      obtain ⟨bd1, bd2, bd3⟩ := fsP_bd s k
      have hst : ((fsP s k).2 = 0 → R = ([], k, 160)) ∧ ((fsP s k).2 ≠ 0 → ∃ f', vpA s = vpF s f' (k + (fsP s k).2) (acc ++ [UInt8.ofNat (fsP s k).1]) ∧ s.size < f' + (k + (fsP s k).2)) := by
        have hf := HW.out.fu
        have he := HW.out.eq
        obtain ⟨f', rfl⟩ : ∃ f', f = f' + 1 := by
          cases f with
          | zero => omega
          | succ f => exact ⟨f, rfl⟩
        obtain ⟨a1, a2⟩ := vpF_step (f := f') (acc := acc) hlt
        refine ⟨fun h => by rw [HR.out, he, a1 h], fun h => ⟨f', by rw [he, a2 h], by omega⟩⟩
      have HO : Hid (OwY w.heap.size wr u acc ∧ Below w.heap.size w wr ∧ acc.length ≤ k) := ⟨HW.out.ow, HW.out.bl, HW.out.ln⟩
      clear HW HFb hz
      generalize (fsP s k).1 = b at *
      generalize (fsP s k).2 = n at *
      by_cases hn : n = 0
      · subst hn
        obtain rfl := hst.1 rfl
        clear hst bd3
        go_wp2_with fail
        refine (HQ.out _).mono ?_
        rintro e w1 ⟨rfl, hb⟩
        have H1 : Hid (Below w.heap.size w w1) := HO.out.2.1.trans (hb.mono HO.out.2.1.size)
        clear hb HO HQ
        go_wp2
        go_ret3
        exact ⟨rfl, H1.out⟩
      · obtain ⟨f', e1, e2⟩ := hst.2 hn
        have hkn := bd3 hn
        have hn' : ((n : Int) == 0) = false := by rw [beq_eq_false_iff_ne]; omega
        have HE : Hid (vpA s = vpF s f' (k + n) (acc ++ [UInt8.ofNat b]) ∧ s.size < f' + (k + n)) := ⟨e1, e2⟩
        clear hst e1 e2 bd3
        go_wp2_with fail
        refine (HQ.out _).mono ?_
        rintro e w1 ⟨rfl, hb⟩
        have HA : Hid (OwY w.heap.size (w1.alloc (.cells #[.int .u8 b] 5)) u acc ∧ Below w.heap.size w (w1.alloc (.cells #[.int .u8 b] 5)) ∧ acc.length ≤ k ∧ w.heap.size ≤ (w1.alloc (.cells #[.int .u8 b] 5)).heap.size) := by
          obtain ⟨q1, q2, q3⟩ := HO.out
          have b2 := hb.alloc (Nat.le_refl _ |> fun h => Nat.le_trans h hb.size) (.cells #[.int .u8 b] 5)
          have b3 := q2.trans (b2.mono q2.size)
          exact ⟨q1.below b2, b3, q3, b3.size⟩
        clear hb HO HQ
        go_wp2_with (at_builtin; refine app_lit rfl _ _ rfl w.heap.size u acc [UInt8.ofNat b] rfl HA.out.1 w1.heap.size _ 1 1 #[.int .u8 b] 5 rfl rfl (alc_new _ _) (by simp [Lib.byteCells]; omega) HA.out.2.2.2 (by have := HA.out.2.2.1; simp; omega) rfl ?_)
        intro v1 w2 h1 h2
        have HF : Hid (VpW w s (k + n) v1 (acc ++ [UInt8.ofNat b]) f' w2) := ⟨by unfold OwY; rw [List.length_append]; exact h1, HA.out.2.1.trans h2.b, HE.out.1, HE.out.2, by have := HA.out.2.2.1; simp; omega⟩
        clear h1 h2 HA HE
        go_wp2
        go_roundw
        case rel => exact ⟨v1, k + n, f', _, rfl, by omega, by go_num, HF⟩
        case measure => simp [intOf]; omega
    · obtain rfl : k = s.size := by omega
      have hE : R = (acc, 0, 0) := by rw [HR.out, HW.out.eq, vpF_end (Nat.le_refl _)]
      subst hE
      have hcv := conv_bytes HW.out.ow
      have H1 : Hid (Below w.heap.size w wr) := HW.out.bl
      clear HW HR
      go_wp2
      go_ret3
      exact ⟨rfl, H1.out⟩

end Go.Proofs.YtooolcldiecfjaaDoor

/-
  Contracts of the document's answer for layer 16: Plain.
-/
namespace Go.Proofs.YtooolcldiecfjaaDoor
open Go.RowKit

theorem fsP_one {s : ByteArray} {p : Nat} (h : p < s.size) (hs : stD (s[p]).toNat = true) : fsP s p = ((s[p]).toNat, 1) := by
  unfold fsP
  rw [if_neg (by omega), byA_at h, if_pos hs]

theorem VpW.next {w : World} {s : ByteArray} {k : Nat} {u : Value} {acc : List UInt8} {f : Nat} {wr : World} (h : VpW w s k u acc f wr) (hlt : k < s.size) (hn : (fsP s k).2 ≠ 0) {v : Value} {W : World} {b n m : Nat} (hb : (fsP s k).1 = b) (hm : (fsP s k).2 = m) (hN : n = acc.length + 1) (h1 : W.ownsRow w.heap.size 5 1 v n (Lib.byteCells (acc ++ [UInt8.ofNat b]))) (h2 : Below w.heap.size w W) : ∃ f', VpW w s (k + m) v (acc ++ [UInt8.ofNat b]) f' W := by
  have hf := h.fu
  have he := h.eq
  have hl := h.ln
  obtain ⟨f', rfl⟩ : ∃ f', f = f' + 1 := by
    cases f with
    | zero => omega
    | succ f => exact ⟨f, rfl⟩
  have a2 := (vpF_step (f := f') (acc := acc) hlt).2 hn
  subst hb hm hN
  exact ⟨f', by unfold OwY; rw [List.length_append]; exact h1, h2, by rw [he, a2], by omega, by simp; omega⟩

set_option maxRecDepth 10000 in
set_option maxHeartbeats 4000000 in
theorem rplain_any (s : ByteArray) (w : World) (hs : s.size ≤ 140000000000000) :
    Calls Tryd.prog 7 #[.string s] w fun e w' => e = .returned (.tuple #[.string ⟨(vpA s).1.toArray⟩, .int .i64 ((vpA s).2.1 : Nat), .int .i64 (vpA s).2.2]) ∧ Below w.heap.size w w' := by
  have H0 : Hid (VpW w s 0 (.slice none 0 0) [] (s.size + 1) w) := ⟨OwY.nil _ _, Below.refl _ _, rfl, by omega, Nat.le_refl _⟩
  have HS : Hid (∀ (k : Nat) W, k < 256 → Calls Tryd.prog 20 #[.int .u8 k] W fun e w' => e = .returned (.bool (stD k)) ∧ w' = W) := fun k W hk => rstands_any k W hk
  obtain ⟨R, hR⟩ : ∃ R, R = vpA s := ⟨_, rfl⟩
  have HR : Hid (R = vpA s) := hR
  rw [← hR]
  clear hR
  go_enter Tryd.func7, Tryd.ntmps7
  go_wp2_with fail
  go_loopw [5, 6] (fun u0 i wr => ∃ (u : Value) (k f : Nat) (acc : List UInt8), u = u0 ∧ k ≤ s.size ∧ i = .int .i64 k ∧ Hid (VpW w s k u acc f wr)) (fun _ i _ => s.size - (intOf i).toNat)
  case atStart => exact ⟨_, 0, _, [], rfl, Nat.zero_le _, rfl, H0⟩
  case round =>
    obtain ⟨u, k, f, acc, rfl, hk, rfl, HW⟩ := hrel
    clear H0
    by_cases hlt : k < s.size
    · have hb := UInt8.toNat_lt s[k]
      have HL : Hid (acc.length ≤ k ∧ w.heap.size ≤ wr.heap.size) := ⟨HW.out.ln, HW.out.bl.size⟩
      cases hst : stD (s[k]).toNat with
      | true =>
        have hfs := fsP_one hlt hst
        have HN : Hid (∀ v W, W.ownsRow w.heap.size 5 1 v (acc.length + 1) (Lib.byteCells (acc ++ [s[k]])) → Below w.heap.size w W → ∃ f', VpW w s (k + 1) v (acc ++ [s[k]]) f' W) := fun v W h1 h2 => by
          have := HW.out.next hlt (by rw [hfs]; exact Nat.one_ne_zero) (b := (s[k]).toNat) (m := 1) (by rw [hfs]) (by rw [hfs]) (v := v) (W := W) rfl
          simp only [UInt8.ofNat_toNat] at this
          exact this h1 h2
        have HA : Hid (OwY w.heap.size (wr.alloc (.cells #[.int .u8 (s[k]).toNat] 5)) u acc ∧ Below w.heap.size w (wr.alloc (.cells #[.int .u8 (s[k]).toNat] 5)) ∧ w.heap.size ≤ (wr.alloc (.cells #[.int .u8 (s[k]).toNat] 5)).heap.size) := ⟨HW.out.ow.below ((Below.refl _ _).alloc (Nat.le_refl _) _), HW.out.bl.alloc HL.out.2 _, by have := HL.out.2; simp; omega⟩
        clear HW hfs
        go_wp2_with (first | (go_at_call 20; refine (HS.out _ _ (by assumption)).mono ?_; rintro e w' ⟨rfl, hw⟩; obtain rfl := hw.symm) | (at_builtin; refine app_lit rfl _ _ rfl w.heap.size u acc [s[k]] rfl HA.out.1 wr.heap.size _ 1 1 #[.int .u8 (s[k]).toNat] 5 rfl rfl (alc_new _ _) rfl HA.out.2.2 (by have := HL.out.1; simp; omega) rfl ?_))
        intro v1 w1 h1 h2
        obtain ⟨f', hF⟩ := HN.out _ _ h1 (HA.out.2.1.trans h2.b)
        have HF : Hid (VpW w s (k + 1) v1 (acc ++ [s[k]]) f' w1) := hF
        clear h1 h2 hF HN HA HL
        go_wp2
        go_roundw
        case rel => exact ⟨v1, k + 1, f', _, rfl, by omega, by go_num, HF⟩
        case measure => simp [intOf]; omega
      | false =>
        have hes := escP_fs hlt (show stD (byA s k) = false by rw [byA_at hlt]; exact hst)
        obtain ⟨bd1, bd2, bd3⟩ := fsP_bd s k
        have HEsc : Hid (∀ W, Calls Tryd.prog 21 #[.string s, .int .i64 k] W fun e w' => e = .returned (.int .i64 (escP s k)) ∧ Below W.heap.size W w') := fun W => resc_any s k W hlt (by omega)
        by_cases hneg : escP s k < 0
        · obtain ⟨e1, e2⟩ := hes.1 hneg
          have hst0 : R = ([], k, 160) := by
            have hf := HW.out.fu
            obtain ⟨f', rfl⟩ : ∃ f', f = f' + 1 := by
              cases f with
              | zero => omega
              | succ f => exact ⟨f, rfl⟩
            rw [HR.out, HW.out.eq, (vpF_step (f := f') (acc := acc) hlt).1 e2]
          subst hst0
          rw [e1] at HEsc
          have HB : Hid (Below w.heap.size w wr) := HW.out.bl
          clear HW hes bd1 bd2 bd3 hneg e1 e2
          go_wp2_with (first | (go_at_call 20; refine (HS.out _ _ (by assumption)).mono ?_; rintro e w' ⟨rfl, hw⟩; obtain rfl := hw.symm) | (go_at_call 21; refine (HEsc.out _).mono ?_; rintro e w1 ⟨rfl, hb1⟩))
          have H1 : Hid (Below w.heap.size w w1) := HB.out.trans (hb1.mono HB.out.size)
          clear hb1
          go_ret3
          exact ⟨rfl, H1.out⟩
        · obtain ⟨e1, e2⟩ := hes.2 hneg
          have hk4 := bd3 (by rw [e2]; decide)
          rw [e2] at hk4
          rw [e1] at HEsc
          obtain ⟨b, hbb⟩ : ∃ b, (fsP s k).1 = b := ⟨_, rfl⟩
          have HN : Hid (∀ v W, W.ownsRow w.heap.size 5 1 v (acc.length + 1) (Lib.byteCells (acc ++ [UInt8.ofNat b])) → Below w.heap.size w W → ∃ f', VpW w s (k + 4) v (acc ++ [UInt8.ofNat b]) f' W) := fun v W h1 h2 => HW.out.next hlt (by rw [e2]; decide) hbb e2 rfl h1 h2
          rw [hbb] at HEsc bd1
          have HO : Hid (OwY w.heap.size wr u acc ∧ Below w.heap.size w wr) := ⟨HW.out.ow, HW.out.bl⟩
          have hbn : ¬ ((b : Int) < 0) := by omega
          clear HW hes bd2 bd3 hneg e1 e2 hbb
          go_wp2_with fail
          refine (HS.out _ _ hb).mono ?_
          rintro e w' ⟨rfl, hw⟩
          obtain rfl := hw.symm
          rw [hst]
          go_wp2_with fail
          refine (HEsc.out _).mono ?_
          rintro e w1 ⟨rfl, hb1⟩
          have HA : Hid (OwY w.heap.size (w1.alloc (.cells #[.int .u8 b] 5)) u acc ∧ Below w.heap.size w (w1.alloc (.cells #[.int .u8 b] 5)) ∧ w.heap.size ≤ (w1.alloc (.cells #[.int .u8 b] 5)).heap.size) := by
            have b2 := hb1.alloc hb1.size (.cells #[.int .u8 b] 5)
            have b3 := HO.out.2.trans (b2.mono HO.out.2.size)
            exact ⟨HO.out.1.below b2, b3, b3.size⟩
          clear hb1 HO
          go_wp2_with (at_builtin; refine app_lit rfl _ _ rfl w.heap.size u acc [UInt8.ofNat b] rfl HA.out.1 w1.heap.size _ 1 1 #[.int .u8 b] 5 rfl rfl (alc_new _ _) (by simp [Lib.byteCells]; omega) HA.out.2.2 (by have := HL.out.1; simp; omega) rfl ?_)
          intro v1 w2 h1 h2
          obtain ⟨f', hF⟩ := HN.out _ _ h1 (HA.out.2.1.trans h2.b)
          have HF : Hid (VpW w s (k + 4) v1 (acc ++ [UInt8.ofNat b]) f' w2) := hF
          clear h1 h2 hF HN HA HL
          go_wp2
          go_roundw
          case rel => exact ⟨v1, k + 4, f', _, rfl, by omega, by go_num, HF⟩
          case measure => simp [intOf]; omega
    · obtain rfl : k = s.size := by omega
      have hE : R = (acc, 0, 0) := by rw [HR.out, HW.out.eq, vpF_end (Nat.le_refl _)]
      subst hE
      have hcv := conv_bytes HW.out.ow
      have H1 : Hid (Below w.heap.size w wr) := HW.out.bl
      clear HW HR
      go_wp2
      go_ret3
      exact ⟨rfl, H1.out⟩

end Go.Proofs.YtooolcldiecfjaaDoor
