/-
  The walk of the statement RegionNames.
-/
import Derived.Test.YtiggenjdibmnlaaGX
namespace Go.Proofs.Ytiggenjdibmnlaa
open Go.RowKit Go.Sort Go.Shelf

set_option maxRecDepth 20000 in
set_option maxHeartbeats 40000000 in
theorem names_walk (w : World) : Calls Try.prog 3 #[] w fun e w' => e = .returned (.bool true) ∧ Below w.heap.size w w' := by
  go_enter Try.func3, Try.ntmps3
  go_wp2_with fail
  refine (alive_any _).mono ?_
  rintro e w1 ⟨rfl, hb1⟩
  have H1 : Hid (Below w.heap.size w w1) := hb1
  clear hb1
  go_wp2_with fail
  refine (rowN_any _).mono ?_
  rintro e w2 ⟨g, arr, rfl, hB, hb2⟩
  have H2 : Hid (Below w.heap.size w w2 ∧ Bk w2 g arr 35) := ⟨bel_tr H1.out hb2, hB.1⟩
  have HO : Hid (OkA rw1 1025 arr) := hB.2
  clear hb2 hB H1
  go_wp2_with fail
  refine (of_one ⟨H2.out.2, HO.out⟩).mono ?_
  rintro e w3 ⟨fv, rfl, hF, hb3⟩
  have H3 : Hid (Below w.heap.size w w3 ∧ Bk w3 g arr 35 ∧ LsR w3 fv (rwL 1024)) := ⟨bel_tr H2.out.1 hb3, H2.out.2.below hb3, hF⟩
  clear hb3 hF H2
  go_wp2_with fail
  refine (of_two ⟨H3.out.2.1, HO.out⟩).mono ?_
  rintro e w4 ⟨v4, rfl, hb4⟩
  have H4 : Hid (Below w.heap.size w w4 ∧ Bk w4 g arr 35 ∧ LsR w4 fv (rwL 1024)) := ⟨bel_tr H3.out.1 hb4, H3.out.2.1.below hb4, H3.out.2.2.below hb4⟩
  clear hb4 H3
  go_upto_region 7 with fail
  have HJ : Hid (∀ W, Below w4.heap.size w4 W → Calls Try.prog 12 #[.slice (some ⟨g, 0, none⟩) 1024 1025, .slice (some ⟨g, 4096, none⟩) 1 1] W fun e w' => ∃ v, e = .returned (.tuple #[v, .int .i64 4]) ∧ Hid (Below w.heap.size w w' ∧ Bk w' g arr 35 ∧ LsR w' fv (rwL 1024))) := fun W hW =>
    (join_one ⟨H4.out.2.1.below hW, HO.out⟩).mono fun e w' ⟨v, he, hb⟩ => ⟨v, he, bel_tr (bel_tr H4.out.1 hW) hb, (H4.out.2.1.below hW).below hb, (H4.out.2.2.below hW).below hb⟩
  go_cut [7, 8] (fun s7 s8 wx => s8 = .int .i64 4 ∧ Hid (Below w.heap.size w wx ∧ Bk wx g arr 35 ∧ LsR wx fv (rwL 1024)))
  case first =>
    clear H4
    go_region_with (go_at_call 12; refine (HJ.out _ (by repeat (first | exact Below.refl _ _ | refine Below.drew ?_))).mono ?_; rintro e w5 ⟨v5, rfl, H5⟩)
    all_goals (go_wp2_with fail; go_meet; exact ⟨rfl, by assumption⟩)
  case rest =>
    obtain ⟨rfl, H5⟩ := hcut
    clear HJ H4
    go_wp2_with fail
    refine (check_one ⟨H5.out.2.1, HO.out⟩).mono ?_
    rintro e w6 ⟨rfl, hb6⟩
    have H6 : Hid (Below w.heap.size w w6 ∧ Bk w6 g arr 35 ∧ LsR w6 fv (rwL 1024)) := ⟨bel_tr H5.out.1 hb6, H5.out.2.1.below hb6, H5.out.2.2.below hb6⟩
    clear hb6 H5
    go_wp2_with fail
    have ez : (w6.alloc (.cells #[.int .i64 (-16384), .int .i64 (-16384), .int .i64 32768, .int .i64 32768] 35)).heap.size = w6.heap.size + 1 := by simp
    have hA := areaL_any wide2 _ _ (lit_new wide2 (w6.alloc (.cells #[.int .i64 (-16384), .int .i64 (-16384), .int .i64 32768, .int .i64 32768] 35))) (i64s_of (by decide +kernel))
    rw [wd_area.1, wd_area.2, ez] at hA
    have ha1 : Below w6.heap.size w6 (w6.alloc (.cells #[.int .i64 (-16384), .int .i64 (-16384), .int .i64 32768, .int .i64 32768] 35)) := (Below.refl _ _).alloc (Nat.le_refl _) _
    have hk1 := Bk.new w6 #[.int .i64 (-16384), .int .i64 (-16384), .int .i64 32768, .int .i64 32768] 35
    have ha2 : Below (w6.alloc (.cells #[.int .i64 (-16384), .int .i64 (-16384), .int .i64 32768, .int .i64 32768] 35)).heap.size (w6.alloc (.cells #[.int .i64 (-16384), .int .i64 (-16384), .int .i64 32768, .int .i64 32768] 35)) ((w6.alloc (.cells #[.int .i64 (-16384), .int .i64 (-16384), .int .i64 32768, .int .i64 32768] 35)).alloc (.cells #[.int .i64 (-16384), .int .i64 (-16384), .int .i64 32768, .int .i64 32768, .int .i64 (-16384), .int .i64 (-16384), .int .i64 32768, .int .i64 32768] 35)) := (Below.refl _ _).alloc (Nat.le_refl _) _
    have ha := bel_tr ha1 ha2
    have hk2 := hk1.below ha2
    refine (show Calls Try.prog 14 #[.slice (some ⟨w6.heap.size + 1, 0, none⟩) 2 2] ((w6.alloc (.cells #[.int .i64 (-16384), .int .i64 (-16384), .int .i64 32768, .int .i64 32768] 35)).alloc (.cells #[.int .i64 (-16384), .int .i64 (-16384), .int .i64 32768, .int .i64 32768, .int .i64 (-16384), .int .i64 (-16384), .int .i64 32768, .int .i64 32768] 35)) _ from hA).mono ?_
    rintro e w7 ⟨rfl, hb7⟩
    obtain ⟨bw, Hbw⟩ : ∃ bw, Hid (bw = w6.heap.size) := ⟨_, rfl⟩
    have H8 : Hid (Below w6.heap.size w6 w7 ∧ w6.heap.size ≤ bw ∧ Bk w7 bw #[.int .i64 (-16384), .int .i64 (-16384), .int .i64 32768, .int .i64 32768] 35) := ⟨bel_tr ha hb7, by rw [Hbw.out]; exact Nat.le_refl _, by rw [Hbw.out]; exact hk2.below hb7⟩
    rw [← Hbw.out]
    clear ez hA ha1 hk1 ha2 ha hb7 hk2 Hbw
    have f1 := H8.out.2.2.frozen
    obtain ⟨c0, c1, c2, c3⟩ := H8.out.2.2.at4
    go_wp2_with fail
    have hs : Below w6.heap.size w6 (w7.setCell ⟨bw, 2, none⟩ (.int .i64 32769)) := H8.out.1.setCell (p := ⟨bw, 2, none⟩) H8.out.2.1 _
    have hs2 : Below (w7.setCell ⟨bw, 2, none⟩ (.int .i64 32769)).heap.size (w7.setCell ⟨bw, 2, none⟩ (.int .i64 32769)) ((w7.setCell ⟨bw, 2, none⟩ (.int .i64 32769)).alloc (.cells #[.int .i64 (-16384), .int .i64 (-16384), .int .i64 32769, .int .i64 32768] 35)) := (Below.refl _ _).alloc (Nat.le_refl _) _
    have hA := areaL_any [⟨-16384, -16384, 32769, 32768⟩] _ _ (lit_new [⟨-16384, -16384, 32769, 32768⟩] (w7.setCell ⟨bw, 2, none⟩ (.int .i64 32769))) (i64s_of (by decide +kernel))
    rw [wd_bad.1, wd_bad.2, show (w7.setCell ⟨bw, 2, none⟩ (.int .i64 32769)).heap.size = w7.heap.size by simp] at hA
    refine (show Calls Try.prog 14 #[.slice (some ⟨w7.heap.size, 0, none⟩) 1 1] ((w7.setCell ⟨bw, 2, none⟩ (.int .i64 32769)).alloc (.cells #[.int .i64 (-16384), .int .i64 (-16384), .int .i64 32769, .int .i64 32768] 35)) _ from hA).mono ?_
    rintro e w8 ⟨rfl, hb8⟩
    have hh := bel_tr (bel_tr hs hs2) hb8
    have H9 : Hid (Below w.heap.size w w8 ∧ Bk w8 g arr 35 ∧ LsR w8 fv (rwL 1024)) := ⟨bel_tr H6.out.1 hh, H6.out.2.1.below hh, H6.out.2.2.below hh⟩
    clear hh hb8 hA hs hs2 f1 c0 c1 c2 c3 H8 H6
    go_wp2_with fail
    refine (moved_one ⟨H9.out.2.1, HO.out⟩).mono ?_
    rintro e w9 ⟨gm, cm, rfl, hM, hb9⟩
    have hcm : 1 ≤ cm := by
      obtain ⟨_, c, e1, e2, _⟩ := hM
      injection e1 with _ _ e3
      rw [e3]
      exact e2
    have H10 : Hid (Below w.heap.size w w9 ∧ Bk w9 g arr 35 ∧ LsR w9 fv (rwL 1024) ∧ LsR w9 (.slice (some ⟨gm, 0, none⟩) 1 cm) [⟨16383, -16384, 1, 1⟩]) := ⟨bel_tr H9.out.1 hb9, H9.out.2.1.below hb9, H9.out.2.2.below hb9, hM⟩
    clear hb9 hM H9
    go_wp2_with fail
    refine (moved_two ⟨H10.out.2.1, HO.out⟩).mono ?_
    rintro e w10 ⟨vw10, rfl, hb⟩
    have H11 : Hid (Below w.heap.size w w10 ∧ Bk w10 g arr 35 ∧ LsR w10 fv (rwL 1024) ∧ LsR w10 (.slice (some ⟨gm, 0, none⟩) 1 cm) [⟨16383, -16384, 1, 1⟩]) := ⟨bel_tr H10.out.1 hb, H10.out.2.1.below hb, H10.out.2.2.1.below hb, H10.out.2.2.2.below hb⟩
    clear hb H10
    go_wp2_with fail
    refine (moved_three _).mono ?_
    rintro e w11 ⟨vw11, rfl, hb⟩
    have H12 : Hid (Below w.heap.size w w11 ∧ Bk w11 g arr 35 ∧ LsR w11 fv (rwL 1024) ∧ LsR w11 (.slice (some ⟨gm, 0, none⟩) 1 cm) [⟨16383, -16384, 1, 1⟩]) := ⟨bel_tr H11.out.1 hb, H11.out.2.1.below hb, H11.out.2.2.1.below hb, H11.out.2.2.2.below hb⟩
    clear hb H11
    go_wp2_with fail
    refine (moved_four _).mono ?_
    rintro e w12 ⟨vw12, rfl, hb⟩
    have H13 : Hid (Below w.heap.size w w12 ∧ Bk w12 g arr 35 ∧ LsR w12 fv (rwL 1024) ∧ LsR w12 (.slice (some ⟨gm, 0, none⟩) 1 cm) [⟨16383, -16384, 1, 1⟩]) := ⟨bel_tr H12.out.1 hb, H12.out.2.1.below hb, H12.out.2.2.1.below hb, H12.out.2.2.2.below hb⟩
    clear hb H12
    obtain ⟨tarr, hts, hmk⟩ := make_rects w12
    have hb : Below w12.heap.size w12 (w12.alloc (.cells tarr 35)) := (Below.refl _ _).alloc (Nat.le_refl _) _
    have HT0 : Hid (Below w12.heap.size w12 (w12.alloc (.cells tarr 35)) ∧ Bk (w12.alloc (.cells tarr 35)) w12.heap.size tarr 35 ∧ OkA (fun _ => ⟨0, 0, 1, 1⟩) 0 tarr) := ⟨hb, Bk.new _ _ _, hts, fun i hi => absurd hi (Nat.not_lt_zero i)⟩
    clear hb hts
    go_wp2_with fail
    clear hmk
    generalize w12.alloc (.cells tarr 35) = wt at *
    obtain ⟨bt, Hbt⟩ : ∃ bt, Hid (bt = w12.heap.size) := ⟨_, rfl⟩
    have HT1 : Hid (Below w12.heap.size w12 wt ∧ Bk wt bt tarr 35 ∧ OkA (fun _ => ⟨0, 0, 1, 1⟩) 0 tarr) := by rw [Hbt.out]; exact HT0.out
    have Hg : Hid (g < bt ∧ w12.heap.size ≤ bt) := by rw [Hbt.out]; exact ⟨H13.out.2.1.lt, Nat.le_refl _⟩
    rw [← Hbt.out]
    clear HT0 Hbt
    go_loopw [24] (fun vi wr => ∃ k : Nat, k ≤ 1025 ∧ vi = .int .i64 k ∧ Hid (∃ ta, Below w12.heap.size w12 wr ∧ Bk wr bt ta 35 ∧ OkA (fun _ => ⟨0, 0, 1, 1⟩) k ta)) (fun vi _ => 1025 - (intOf vi).toNat)
    case atStart => exact ⟨0, Nat.zero_le _, rfl, ⟨tarr, HT1.out⟩⟩
    case round =>
      obtain ⟨k, hk, rfl, HR⟩ := hrel
      clear HT1
      by_cases hlt : k < 1025
      · have ik : (k : Int) < 1025 := by omega
        obtain ⟨ta, L, B, O⟩ := HR.out
        have f1 := B.frozen
        have c0 : wr.cell? ⟨bt, k * 4, none⟩ = some (ta[k * 4]'(by rw [O.1]; omega)) := (B.cell _).trans (Array.getElem?_eq_getElem _)
        have c1 : wr.cell? ⟨bt, k * 4 + 1, none⟩ = some (ta[k * 4 + 1]'(by rw [O.1]; omega)) := (B.cell _).trans (Array.getElem?_eq_getElem _)
        have c2 : wr.cell? ⟨bt, k * 4 + 2, none⟩ = some (ta[k * 4 + 2]'(by rw [O.1]; omega)) := (B.cell _).trans (Array.getElem?_eq_getElem _)
        have c3 : wr.cell? ⟨bt, k * 4 + 3, none⟩ = some (ta[k * 4 + 3]'(by rw [O.1]; omega)) := (B.cell _).trans (Array.getElem?_eq_getElem _)
        have Bg := H13.out.2.1.below L
        obtain ⟨q0, q1, q2, q3⟩ := HO.out.2 0 (by omega)
        have d0 : wr.cell? ⟨g, 0, none⟩ = some (.int .i64 0) := (Bg.cell 0).trans q0
        have d1 : wr.cell? ⟨g, 1, none⟩ = some (.int .i64 0) := (Bg.cell 1).trans q1
        have d2 : wr.cell? ⟨g, 2, none⟩ = some (.int .i64 1) := (Bg.cell 2).trans q2
        have d3 : wr.cell? ⟨g, 3, none⟩ = some (.int .i64 1) := (Bg.cell 3).trans q3
        have hgb := Hg.out.1
        have HS : Hid (∃ ta', Below w12.heap.size w12 ((((wr.setCell ⟨bt, k * 4, none⟩ (.int .i64 0)).setCell ⟨bt, k * 4 + 1, none⟩ (.int .i64 0)).setCell ⟨bt, k * 4 + 2, none⟩ (.int .i64 1)).setCell ⟨bt, k * 4 + 3, none⟩ (.int .i64 1)) ∧ Bk ((((wr.setCell ⟨bt, k * 4, none⟩ (.int .i64 0)).setCell ⟨bt, k * 4 + 1, none⟩ (.int .i64 0)).setCell ⟨bt, k * 4 + 2, none⟩ (.int .i64 1)).setCell ⟨bt, k * 4 + 3, none⟩ (.int .i64 1)) bt ta' 35 ∧ OkA (fun _ => ⟨0, 0, 1, 1⟩) (k + 1) ta') :=
          ⟨_, (((L.setCell (p := ⟨bt, k * 4, none⟩) Hg.out.2 _).setCell (p := ⟨bt, k * 4 + 1, none⟩) Hg.out.2 _).setCell (p := ⟨bt, k * 4 + 2, none⟩) Hg.out.2 _).setCell (p := ⟨bt, k * 4 + 3, none⟩) Hg.out.2 _, (((B.put (k * 4) _).put (k * 4 + 1) _).put (k * 4 + 2) _).put (k * 4 + 3) _, okA_step O hlt⟩
        generalize ta[k * 4]'(by rw [O.1]; omega) = x0 at c0
        generalize ta[k * 4 + 1]'(by rw [O.1]; omega) = x1 at c1
        generalize ta[k * 4 + 2]'(by rw [O.1]; omega) = x2 at c2
        generalize ta[k * 4 + 3]'(by rw [O.1]; omega) = x3 at c3
        clear L B O HR Bg q0 q1 q2 q3
        go_wp2_with fail
        exact ⟨⟨k + 1, by omega, by go_num, HS.out⟩, by simp [intOf]; omega⟩
      · have ik : ¬ (k : Int) < 1025 := by omega
        obtain rfl : k = 1025 := by omega
        obtain ⟨ta, L, B, O⟩ := HR.out
        have H14 : Hid (Below w.heap.size w wr ∧ Bk wr g arr 35 ∧ LsR wr fv (rwL 1024) ∧ LsR wr (.slice (some ⟨gm, 0, none⟩) 1 cm) [⟨16383, -16384, 1, 1⟩] ∧ Bk wr bt ta 35) := ⟨bel_tr H13.out.1 L, H13.out.2.1.below L, H13.out.2.2.1.below L, H13.out.2.2.2.below L, B⟩
        have HO2 : Hid (OkA (fun _ => ⟨0, 0, 1, 1⟩) 1025 ta) := O
        clear L B O HR H13 Hg
        go_wp2_with fail
        refine (area_one ⟨H14.out.2.2.2.2, HO2.out⟩).mono ?_
        rintro e w13 ⟨rfl, hb⟩
        have H15 : Hid (Below w.heap.size w w13 ∧ Bk w13 g arr 35 ∧ LsR w13 fv (rwL 1024) ∧ LsR w13 (.slice (some ⟨gm, 0, none⟩) 1 cm) [⟨16383, -16384, 1, 1⟩] ∧ Bk w13 bt ta 35) := ⟨bel_tr H14.out.1 hb, H14.out.2.1.below hb, H14.out.2.2.1.below hb, H14.out.2.2.2.1.below hb, H14.out.2.2.2.2.below hb⟩
        clear hb H14
        go_wp2_with fail
        refine (area_two ⟨H15.out.2.2.2.2, HO2.out⟩).mono ?_
        rintro e w14 ⟨rfl, hb⟩
        have H16 : Hid (Below w.heap.size w w14 ∧ Bk w14 g arr 35 ∧ LsR w14 fv (rwL 1024) ∧ LsR w14 (.slice (some ⟨gm, 0, none⟩) 1 cm) [⟨16383, -16384, 1, 1⟩]) := ⟨bel_tr H15.out.1 hb, H15.out.2.1.below hb, H15.out.2.2.1.below hb, H15.out.2.2.2.1.below hb⟩
        clear hb H15
        go_wp2_with fail
        refine (rect_any 0 0 2 1 _).mono ?_
        rintro e w15 ⟨rfl, hb⟩
        go_wp2_with fail
        have h1 := lit_new [⟨0, 0, 2, 1⟩] w15
        have h2 : Below w15.heap.size w15 (w15.alloc (.cells #[.int .i64 0, .int .i64 0, .int .i64 2, .int .i64 1] 35)) := (Below.refl _ _).alloc (Nat.le_refl _) _
        have h3 := bel_tr hb h2
        have H17 : Hid (Below w14.heap.size w14 (w15.alloc (.cells #[.int .i64 0, .int .i64 0, .int .i64 2, .int .i64 1] 35)) ∧ LsR (w15.alloc (.cells #[.int .i64 0, .int .i64 0, .int .i64 2, .int .i64 1] 35)) (.slice (some ⟨w15.heap.size, 0, none⟩) 1 1) [⟨0, 0, 2, 1⟩]) := ⟨h3, h1⟩
        clear h1 h2 h3 hb
        refine (rect_any 0 0 3 1 _).mono ?_
        rintro e w16 ⟨rfl, hb⟩
        go_wp2_with fail
        have h1 := lit_new [⟨0, 0, 3, 1⟩] w16
        have h2 : Below w16.heap.size w16 (w16.alloc (.cells #[.int .i64 0, .int .i64 0, .int .i64 3, .int .i64 1] 35)) := (Below.refl _ _).alloc (Nat.le_refl _) _
        have h3 := bel_tr H17.out.1 (bel_tr hb h2)
        have h4 := H17.out.2.below (bel_tr hb h2)
        have hS := sameS_any [⟨0, 0, 2, 1⟩] [⟨0, 0, 3, 1⟩] _ _ _ h4 h1 (i64s_of (by decide +kernel)) (i64s_of (by decide +kernel))
        rw [sm_two.1, sm_two.2] at hS
        refine (show Calls Try.prog 16 #[.slice (some ⟨w15.heap.size, 0, none⟩) 1 1, .slice (some ⟨w16.heap.size, 0, none⟩) 1 1] (w16.alloc (.cells #[.int .i64 0, .int .i64 0, .int .i64 3, .int .i64 1] 35)) _ from hS).mono ?_
        rintro e w17 ⟨rfl, hb'⟩
        have h5 := bel_tr h3 hb'
        have H18 : Hid (Below w.heap.size w w17 ∧ Bk w17 g arr 35 ∧ LsR w17 fv (rwL 1024) ∧ LsR w17 (.slice (some ⟨gm, 0, none⟩) 1 cm) [⟨16383, -16384, 1, 1⟩]) := ⟨bel_tr H16.out.1 h5, H16.out.2.1.below h5, H16.out.2.2.1.below h5, H16.out.2.2.2.below h5⟩
        clear h1 h2 h3 h4 h5 hS hb hb' H16 H17
        have HSm : Hid (∀ W, Below w17.heap.size w17 W → Calls Try.prog 18 #[fv, .slice (some ⟨g, 0, none⟩) 1024 1025] W fun e w' => e = .returned (.bool true) ∧ Below W.heap.size W w') := fun W hW => by
          have h := sameW_any (rwL 1024) (rwL 1024) fv _ W (H18.out.2.2.1.below hW) (rw_list ⟨H18.out.2.1.below hW, HO.out⟩ 1024 1025 (by omega) (by omega)) (by rw [rw_len]; omega)
          rw [(sameB_iff _ _).2 rfl] at h
          exact h
        go_wp2_with fail
        refine (HSm.out _ (Below.refl _ _)).mono ?_
        rintro e w18 ⟨rfl, hb⟩
        obtain ⟨hgm, hcm2⟩ := lsr_cells (H18.out.2.2.2.below hb) (by decide)
        have d0 : w18.cell? ⟨gm, 0, none⟩ = some (.int .i64 16383) := (hcm2 0 (by decide)).1
        have d1 : w18.cell? ⟨gm, 1, none⟩ = some (.int .i64 (-16384)) := (hcm2 0 (by decide)).2.1
        have HL : Hid (Below w.heap.size w w18) := bel_tr H18.out.1 hb
        clear hgm hcm2 H18 hb HSm
        go_wp2
        go_ret
        exact ⟨rfl, HL.out⟩

end Go.Proofs.Ytiggenjdibmnlaa
