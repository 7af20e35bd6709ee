/-
  The walk of the statement RegionRules, where nothing is too long or wrong.
-/
import Derived.Test.YtiggenjdibmnlaaGZ5
namespace Go.Proofs.Ytiggenjdibmnlaa
open Go.RowKit Go.Sort Go.Shelf

theorem sameV_ok {W : World} {v u : Value} {l m : List Rc} (h : Lsx W v l) (h' : Lsx W u m) (hn : l.length ≤ 1000) : Calls Try.prog 18 #[v, u] W fun e w' => e = .returned (.bool (sameB l m)) ∧ Below W.heap.size W w' := sameW_any l m v u W h.1 h'.1 (by omega)
theorem sameW_ok {W : World} {v u : Value} {l : List Rc} (h : Lsx W v l) (h' : Lsx W u l) (hn : l.length ≤ 1000) : Calls Try.prog 18 #[v, u] W fun e w' => e = .returned (.bool true) ∧ Below W.heap.size W w' := by
  have q := sameV_ok h h' hn
  rw [(sameB_iff _ _).2 rfl] at q
  exact q

set_option maxRecDepth 20000 in
set_option maxHeartbeats 40000000 in
theorem rules_ok (a b c : List Rc) (va vb vc : Value) (w : World) (ha : Lsx w va a) (hb : Lsx w vb b) (hc : Lsx w vc c) (la : a.length ≤ 10) (lb : b.length ≤ 10) (lc : c.length ≤ 10) :
    Calls Try.prog 7 #[va, vb, vc] w fun e w' => e = .returned (.bool true) ∧ Below w.heap.size w w' := by
  obtain ⟨oa, ca, rfl, _, _⟩ := id ha.1
  obtain ⟨ob, cb, rfl, _, _⟩ := id hb.1
  obtain ⟨oc, cc, rfl, _, _⟩ := id hc.1
  obtain ⟨n1, n2, n3, n4⟩ := ru_len la lb lc
  obtain ⟨n5, n6, n7, _⟩ := ru_len lb lc la
  have n8 := (ru_len lc la lb).1 false
  have HN : Hid (((formF false a []).length ≤ 100 ∧ (formF true a b).length ≤ 400 ∧ (formF false a b).length ≤ 400 ∧ (formF false (a ++ b) []).length ≤ 400 ∧ (formF false (a ++ b ++ c) []).length ≤ 900) ∧ (formF false b []).length ≤ 100 ∧ (formF false c []).length ≤ 100 ∧ (formF false (b ++ c) []).length ≤ 400) := ⟨⟨n1 _, n2 _, n2 _, n3, n4⟩, n5 _, n8, n7⟩
  have HL : Hid (a.length ≤ 10) := la
  clear n1 n2 n3 n4 n5 n6 n7 n8
  have HAr : Hid (arS (formF false (formF false (a ++ b) []) []) + arS (formF false (formF true a b) []) = arS (formF false a []) + arS (formF false b [])) := ru_area a b
  have qa : ¬ (10 : Int) < a.length := by omega
  have qb : ¬ (10 : Int) < b.length := by omega
  have qc : ¬ (10 : Int) < c.length := by omega
  have H0 : Hid (Below w.heap.size w w ∧ Lsx w (.slice oa a.length ca) a ∧ Lsx w (.slice ob b.length cb) b ∧ Lsx w (.slice oc c.length cc) c) := ⟨Below.refl _ _, ha, hb, hc⟩
  clear ha hb hc la lb lc
  go_enter Try.func7, Try.ntmps7
  go_wp2_with fail
  refine (alive_any _).mono ?_
  rintro e w1 ⟨rfl, hb⟩
  have H1 : Hid (Below w.heap.size w w1 ∧ Lsx w1 (.slice oa a.length ca) a ∧ Lsx w1 (.slice ob b.length cb) b ∧ Lsx w1 (.slice oc c.length cc) c) := ⟨bel_tr H0.out.1 hb, H0.out.2.1.below hb, H0.out.2.2.1.below hb, H0.out.2.2.2.below hb⟩
  clear hb H0
  go_wp2_with fail
  refine (of_ok (H1.out.2.1) rfl (by have := HN.out; omega)).mono ?_
  rintro e w2 ⟨u_f, rfl, hl, hb⟩
  have H2 : Hid (Below w.heap.size w w2 ∧ Lsx w2 (.slice oa a.length ca) a ∧ Lsx w2 (.slice ob b.length cb) b ∧ Lsx w2 (.slice oc c.length cc) c ∧ Lsx w2 u_f (formF false a [])) := ⟨bel_tr H1.out.1 hb, H1.out.2.1.below hb, H1.out.2.2.1.below hb, H1.out.2.2.2.below hb, hl⟩
  clear hl hb H1
  go_wp2_with fail
  refine (of_ok (H2.out.2.2.1) rfl (by have := HN.out; omega)).mono ?_
  rintro e w3 ⟨u_g, rfl, hl, hb⟩
  have H3 : Hid (Below w.heap.size w w3 ∧ Lsx w3 (.slice oa a.length ca) a ∧ Lsx w3 (.slice ob b.length cb) b ∧ Lsx w3 (.slice oc c.length cc) c ∧ Lsx w3 u_f (formF false a []) ∧ Lsx w3 u_g (formF false b [])) := ⟨bel_tr H2.out.1 hb, H2.out.2.1.below hb, H2.out.2.2.1.below hb, H2.out.2.2.2.1.below hb, H2.out.2.2.2.2.below hb, hl⟩
  clear hl hb H2
  go_wp2_with fail
  refine (of_ok (H3.out.2.2.2.1) rfl (by have := HN.out; omega)).mono ?_
  rintro e w4 ⟨u_o, rfl, hl, hb⟩
  have H4 : Hid (Below w.heap.size w w4 ∧ Lsx w4 (.slice oa a.length ca) a ∧ Lsx w4 (.slice ob b.length cb) b ∧ Lsx w4 (.slice oc c.length cc) c ∧ Lsx w4 u_f (formF false a []) ∧ Lsx w4 u_g (formF false b []) ∧ Lsx w4 u_o (formF false c [])) := ⟨bel_tr H3.out.1 hb, H3.out.2.1.below hb, H3.out.2.2.1.below hb, H3.out.2.2.2.1.below hb, H3.out.2.2.2.2.1.below hb, H3.out.2.2.2.2.2.below hb, hl⟩
  clear hl hb H3
  go_wp2_with fail
  refine (of_ok (H4.out.2.2.2.2.1) (form_form _ _ _) (by have := HN.out; omega)).mono ?_
  rintro e w5 ⟨u_again, rfl, hl, hb⟩
  have H5 : Hid (Below w.heap.size w w5 ∧ Lsx w5 (.slice oa a.length ca) a ∧ Lsx w5 (.slice ob b.length cb) b ∧ Lsx w5 (.slice oc c.length cc) c ∧ Lsx w5 u_f (formF false a []) ∧ Lsx w5 u_g (formF false b []) ∧ Lsx w5 u_o (formF false c []) ∧ Lsx w5 u_again (formF false a [])) := ⟨bel_tr H4.out.1 hb, H4.out.2.1.below hb, H4.out.2.2.1.below hb, H4.out.2.2.2.1.below hb, H4.out.2.2.2.2.1.below hb, H4.out.2.2.2.2.2.1.below hb, H4.out.2.2.2.2.2.2.below hb, hl⟩
  clear hl hb H4
  go_wp2_with fail
  refine (back_ok (H5.out.2.1) HL.out).mono ?_
  rintro e w6 ⟨u_bk, rfl, hl, hb⟩
  have H6 : Hid (Below w.heap.size w w6 ∧ Lsx w6 (.slice oa a.length ca) a ∧ Lsx w6 (.slice ob b.length cb) b ∧ Lsx w6 (.slice oc c.length cc) c ∧ Lsx w6 u_f (formF false a []) ∧ Lsx w6 u_g (formF false b []) ∧ Lsx w6 u_o (formF false c []) ∧ Lsx w6 u_again (formF false a []) ∧ Lsx w6 u_bk (bckL a)) := ⟨bel_tr H5.out.1 hb, H5.out.2.1.below hb, H5.out.2.2.1.below hb, H5.out.2.2.2.1.below hb, H5.out.2.2.2.2.1.below hb, H5.out.2.2.2.2.2.1.below hb, H5.out.2.2.2.2.2.2.1.below hb, H5.out.2.2.2.2.2.2.2.below hb, hl⟩
  clear hl hb H5
  go_wp2_with fail
  refine (of_ok (H6.out.2.2.2.2.2.2.2.2) (ru_back a) (by have := HN.out; omega)).mono ?_
  rintro e w7 ⟨u_turned, rfl, hl, hb⟩
  have H7 : Hid (Below w.heap.size w w7 ∧ Lsx w7 (.slice oa a.length ca) a ∧ Lsx w7 (.slice ob b.length cb) b ∧ Lsx w7 (.slice oc c.length cc) c ∧ Lsx w7 u_f (formF false a []) ∧ Lsx w7 u_g (formF false b []) ∧ Lsx w7 u_o (formF false c []) ∧ Lsx w7 u_again (formF false a []) ∧ Lsx w7 u_bk (bckL a) ∧ Lsx w7 u_turned (formF false a [])) := ⟨bel_tr H6.out.1 hb, H6.out.2.1.below hb, H6.out.2.2.1.below hb, H6.out.2.2.2.1.below hb, H6.out.2.2.2.2.1.below hb, H6.out.2.2.2.2.2.1.below hb, H6.out.2.2.2.2.2.2.1.below hb, H6.out.2.2.2.2.2.2.2.1.below hb, H6.out.2.2.2.2.2.2.2.2.below hb, hl⟩
  clear hl hb H6
  go_wp2_with fail
  refine (join_ok (H7.out.2.1) (H7.out.2.2.1) rfl (by have := HN.out; omega)).mono ?_
  rintro e w8 ⟨u_ab, rfl, hl, hb⟩
  have H8 : Hid (Below w.heap.size w w8 ∧ Lsx w8 (.slice oa a.length ca) a ∧ Lsx w8 (.slice ob b.length cb) b ∧ Lsx w8 (.slice oc c.length cc) c ∧ Lsx w8 u_f (formF false a []) ∧ Lsx w8 u_g (formF false b []) ∧ Lsx w8 u_o (formF false c []) ∧ Lsx w8 u_again (formF false a []) ∧ Lsx w8 u_bk (bckL a) ∧ Lsx w8 u_turned (formF false a []) ∧ Lsx w8 u_ab (formF false (a ++ b) [])) := ⟨bel_tr H7.out.1 hb, H7.out.2.1.below hb, H7.out.2.2.1.below hb, H7.out.2.2.2.1.below hb, H7.out.2.2.2.2.1.below hb, H7.out.2.2.2.2.2.1.below hb, H7.out.2.2.2.2.2.2.1.below hb, H7.out.2.2.2.2.2.2.2.1.below hb, H7.out.2.2.2.2.2.2.2.2.1.below hb, H7.out.2.2.2.2.2.2.2.2.2.below hb, hl⟩
  clear hl hb H7
  go_wp2_with fail
  refine (join_ok (H8.out.2.2.1) (H8.out.2.1) (ru_join b a) (by have := HN.out; omega)).mono ?_
  rintro e w9 ⟨u_ba, rfl, hl, hb⟩
  have H9 : Hid (Below w.heap.size w w9 ∧ Lsx w9 (.slice oa a.length ca) a ∧ Lsx w9 (.slice ob b.length cb) b ∧ Lsx w9 (.slice oc c.length cc) c ∧ Lsx w9 u_f (formF false a []) ∧ Lsx w9 u_g (formF false b []) ∧ Lsx w9 u_o (formF false c []) ∧ Lsx w9 u_again (formF false a []) ∧ Lsx w9 u_bk (bckL a) ∧ Lsx w9 u_turned (formF false a []) ∧ Lsx w9 u_ab (formF false (a ++ b) []) ∧ Lsx w9 u_ba (formF false (a ++ b) [])) := ⟨bel_tr H8.out.1 hb, H8.out.2.1.below hb, H8.out.2.2.1.below hb, H8.out.2.2.2.1.below hb, H8.out.2.2.2.2.1.below hb, H8.out.2.2.2.2.2.1.below hb, H8.out.2.2.2.2.2.2.1.below hb, H8.out.2.2.2.2.2.2.2.1.below hb, H8.out.2.2.2.2.2.2.2.2.1.below hb, H8.out.2.2.2.2.2.2.2.2.2.1.below hb, H8.out.2.2.2.2.2.2.2.2.2.2.below hb, hl⟩
  clear hl hb H8
  go_wp2_with fail
  refine (meet_ok (H9.out.2.1) (H9.out.2.2.1) rfl (by have := HN.out; omega)).mono ?_
  rintro e w10 ⟨u_m, rfl, hl, hb⟩
  have H10 : Hid (Below w.heap.size w w10 ∧ Lsx w10 (.slice oa a.length ca) a ∧ Lsx w10 (.slice ob b.length cb) b ∧ Lsx w10 (.slice oc c.length cc) c ∧ Lsx w10 u_f (formF false a []) ∧ Lsx w10 u_g (formF false b []) ∧ Lsx w10 u_o (formF false c []) ∧ Lsx w10 u_again (formF false a []) ∧ Lsx w10 u_bk (bckL a) ∧ Lsx w10 u_turned (formF false a []) ∧ Lsx w10 u_ab (formF false (a ++ b) []) ∧ Lsx w10 u_ba (formF false (a ++ b) []) ∧ Lsx w10 u_m (formF true a b)) := ⟨bel_tr H9.out.1 hb, H9.out.2.1.below hb, H9.out.2.2.1.below hb, H9.out.2.2.2.1.below hb, H9.out.2.2.2.2.1.below hb, H9.out.2.2.2.2.2.1.below hb, H9.out.2.2.2.2.2.2.1.below hb, H9.out.2.2.2.2.2.2.2.1.below hb, H9.out.2.2.2.2.2.2.2.2.1.below hb, H9.out.2.2.2.2.2.2.2.2.2.1.below hb, H9.out.2.2.2.2.2.2.2.2.2.2.1.below hb, H9.out.2.2.2.2.2.2.2.2.2.2.2.below hb, hl⟩
  clear hl hb H9
  go_wp2_with fail
  refine (meet_ok (H10.out.2.2.1) (H10.out.2.1) (ru_meet b a) (by have := HN.out; omega)).mono ?_
  rintro e w11 ⟨u_n, rfl, hl, hb⟩
  have H11 : Hid (Below w.heap.size w w11 ∧ Lsx w11 (.slice oa a.length ca) a ∧ Lsx w11 (.slice ob b.length cb) b ∧ Lsx w11 (.slice oc c.length cc) c ∧ Lsx w11 u_f (formF false a []) ∧ Lsx w11 u_g (formF false b []) ∧ Lsx w11 u_o (formF false c []) ∧ Lsx w11 u_again (formF false a []) ∧ Lsx w11 u_bk (bckL a) ∧ Lsx w11 u_turned (formF false a []) ∧ Lsx w11 u_ab (formF false (a ++ b) []) ∧ Lsx w11 u_ba (formF false (a ++ b) []) ∧ Lsx w11 u_m (formF true a b) ∧ Lsx w11 u_n (formF true a b)) := ⟨bel_tr H10.out.1 hb, H10.out.2.1.below hb, H10.out.2.2.1.below hb, H10.out.2.2.2.1.below hb, H10.out.2.2.2.2.1.below hb, H10.out.2.2.2.2.2.1.below hb, H10.out.2.2.2.2.2.2.1.below hb, H10.out.2.2.2.2.2.2.2.1.below hb, H10.out.2.2.2.2.2.2.2.2.1.below hb, H10.out.2.2.2.2.2.2.2.2.2.1.below hb, H10.out.2.2.2.2.2.2.2.2.2.2.1.below hb, H10.out.2.2.2.2.2.2.2.2.2.2.2.1.below hb, H10.out.2.2.2.2.2.2.2.2.2.2.2.2.below hb, hl⟩
  clear hl hb H10
  go_wp2_with fail
  refine (less_ok (H11.out.2.1) (H11.out.2.2.1) rfl (by have := HN.out; omega)).mono ?_
  rintro e w12 ⟨u_l, rfl, hl, hb⟩
  have H12 : Hid (Below w.heap.size w w12 ∧ Lsx w12 (.slice oa a.length ca) a ∧ Lsx w12 (.slice ob b.length cb) b ∧ Lsx w12 (.slice oc c.length cc) c ∧ Lsx w12 u_f (formF false a []) ∧ Lsx w12 u_g (formF false b []) ∧ Lsx w12 u_o (formF false c []) ∧ Lsx w12 u_again (formF false a []) ∧ Lsx w12 u_bk (bckL a) ∧ Lsx w12 u_turned (formF false a []) ∧ Lsx w12 u_ab (formF false (a ++ b) []) ∧ Lsx w12 u_ba (formF false (a ++ b) []) ∧ Lsx w12 u_m (formF true a b) ∧ Lsx w12 u_n (formF true a b) ∧ Lsx w12 u_l (formF false a b)) := ⟨bel_tr H11.out.1 hb, H11.out.2.1.below hb, H11.out.2.2.1.below hb, H11.out.2.2.2.1.below hb, H11.out.2.2.2.2.1.below hb, H11.out.2.2.2.2.2.1.below hb, H11.out.2.2.2.2.2.2.1.below hb, H11.out.2.2.2.2.2.2.2.1.below hb, H11.out.2.2.2.2.2.2.2.2.1.below hb, H11.out.2.2.2.2.2.2.2.2.2.1.below hb, H11.out.2.2.2.2.2.2.2.2.2.2.1.below hb, H11.out.2.2.2.2.2.2.2.2.2.2.2.1.below hb, H11.out.2.2.2.2.2.2.2.2.2.2.2.2.1.below hb, H11.out.2.2.2.2.2.2.2.2.2.2.2.2.2.below hb, hl⟩
  clear hl hb H11
  go_wp2_with fail
  refine (join_ok (H12.out.2.2.1) (H12.out.2.2.2.1) rfl (by have := HN.out; omega)).mono ?_
  rintro e w13 ⟨u_bc, rfl, hl, hb⟩
  have H13 : Hid (Below w.heap.size w w13 ∧ Lsx w13 (.slice oa a.length ca) a ∧ Lsx w13 (.slice ob b.length cb) b ∧ Lsx w13 (.slice oc c.length cc) c ∧ Lsx w13 u_f (formF false a []) ∧ Lsx w13 u_g (formF false b []) ∧ Lsx w13 u_o (formF false c []) ∧ Lsx w13 u_again (formF false a []) ∧ Lsx w13 u_bk (bckL a) ∧ Lsx w13 u_turned (formF false a []) ∧ Lsx w13 u_ab (formF false (a ++ b) []) ∧ Lsx w13 u_ba (formF false (a ++ b) []) ∧ Lsx w13 u_m (formF true a b) ∧ Lsx w13 u_n (formF true a b) ∧ Lsx w13 u_l (formF false a b) ∧ Lsx w13 u_bc (formF false (b ++ c) [])) := ⟨bel_tr H12.out.1 hb, H12.out.2.1.below hb, H12.out.2.2.1.below hb, H12.out.2.2.2.1.below hb, H12.out.2.2.2.2.1.below hb, H12.out.2.2.2.2.2.1.below hb, H12.out.2.2.2.2.2.2.1.below hb, H12.out.2.2.2.2.2.2.2.1.below hb, H12.out.2.2.2.2.2.2.2.2.1.below hb, H12.out.2.2.2.2.2.2.2.2.2.1.below hb, H12.out.2.2.2.2.2.2.2.2.2.2.1.below hb, H12.out.2.2.2.2.2.2.2.2.2.2.2.1.below hb, H12.out.2.2.2.2.2.2.2.2.2.2.2.2.1.below hb, H12.out.2.2.2.2.2.2.2.2.2.2.2.2.2.1.below hb, H12.out.2.2.2.2.2.2.2.2.2.2.2.2.2.2.below hb, hl⟩
  clear hl hb H12
  go_wp2_with fail
  refine (join_ok (H13.out.2.2.2.2.2.2.2.2.2.2.1) (H13.out.2.2.2.1) (ru_left a b c) (by have := HN.out; omega)).mono ?_
  rintro e w14 ⟨u_left, rfl, hl, hb⟩
  have H14 : Hid (Below w.heap.size w w14 ∧ Lsx w14 (.slice oa a.length ca) a ∧ Lsx w14 (.slice ob b.length cb) b ∧ Lsx w14 (.slice oc c.length cc) c ∧ Lsx w14 u_f (formF false a []) ∧ Lsx w14 u_g (formF false b []) ∧ Lsx w14 u_o (formF false c []) ∧ Lsx w14 u_again (formF false a []) ∧ Lsx w14 u_bk (bckL a) ∧ Lsx w14 u_turned (formF false a []) ∧ Lsx w14 u_ab (formF false (a ++ b) []) ∧ Lsx w14 u_ba (formF false (a ++ b) []) ∧ Lsx w14 u_m (formF true a b) ∧ Lsx w14 u_n (formF true a b) ∧ Lsx w14 u_l (formF false a b) ∧ Lsx w14 u_bc (formF false (b ++ c) []) ∧ Lsx w14 u_left (formF false (a ++ b ++ c) [])) := ⟨bel_tr H13.out.1 hb, H13.out.2.1.below hb, H13.out.2.2.1.below hb, H13.out.2.2.2.1.below hb, H13.out.2.2.2.2.1.below hb, H13.out.2.2.2.2.2.1.below hb, H13.out.2.2.2.2.2.2.1.below hb, H13.out.2.2.2.2.2.2.2.1.below hb, H13.out.2.2.2.2.2.2.2.2.1.below hb, H13.out.2.2.2.2.2.2.2.2.2.1.below hb, H13.out.2.2.2.2.2.2.2.2.2.2.1.below hb, H13.out.2.2.2.2.2.2.2.2.2.2.2.1.below hb, H13.out.2.2.2.2.2.2.2.2.2.2.2.2.1.below hb, H13.out.2.2.2.2.2.2.2.2.2.2.2.2.2.1.below hb, H13.out.2.2.2.2.2.2.2.2.2.2.2.2.2.2.1.below hb, H13.out.2.2.2.2.2.2.2.2.2.2.2.2.2.2.2.below hb, hl⟩
  clear hl hb H13
  go_wp2_with fail
  refine (join_ok (H14.out.2.1) (H14.out.2.2.2.2.2.2.2.2.2.2.2.2.2.2.2.1) (ru_right a b c) (by have := HN.out; omega)).mono ?_
  rintro e w15 ⟨u_right, rfl, hl, hb⟩
  have H15 : Hid (Below w.heap.size w w15 ∧ Lsx w15 (.slice oa a.length ca) a ∧ Lsx w15 (.slice ob b.length cb) b ∧ Lsx w15 (.slice oc c.length cc) c ∧ Lsx w15 u_f (formF false a []) ∧ Lsx w15 u_g (formF false b []) ∧ Lsx w15 u_o (formF false c []) ∧ Lsx w15 u_again (formF false a []) ∧ Lsx w15 u_bk (bckL a) ∧ Lsx w15 u_turned (formF false a []) ∧ Lsx w15 u_ab (formF false (a ++ b) []) ∧ Lsx w15 u_ba (formF false (a ++ b) []) ∧ Lsx w15 u_m (formF true a b) ∧ Lsx w15 u_n (formF true a b) ∧ Lsx w15 u_l (formF false a b) ∧ Lsx w15 u_bc (formF false (b ++ c) []) ∧ Lsx w15 u_left (formF false (a ++ b ++ c) []) ∧ Lsx w15 u_right (formF false (a ++ b ++ c) [])) := ⟨bel_tr H14.out.1 hb, H14.out.2.1.below hb, H14.out.2.2.1.below hb, H14.out.2.2.2.1.below hb, H14.out.2.2.2.2.1.below hb, H14.out.2.2.2.2.2.1.below hb, H14.out.2.2.2.2.2.2.1.below hb, H14.out.2.2.2.2.2.2.2.1.below hb, H14.out.2.2.2.2.2.2.2.2.1.below hb, H14.out.2.2.2.2.2.2.2.2.2.1.below hb, H14.out.2.2.2.2.2.2.2.2.2.2.1.below hb, H14.out.2.2.2.2.2.2.2.2.2.2.2.1.below hb, H14.out.2.2.2.2.2.2.2.2.2.2.2.2.1.below hb, H14.out.2.2.2.2.2.2.2.2.2.2.2.2.2.1.below hb, H14.out.2.2.2.2.2.2.2.2.2.2.2.2.2.2.1.below hb, H14.out.2.2.2.2.2.2.2.2.2.2.2.2.2.2.2.1.below hb, H14.out.2.2.2.2.2.2.2.2.2.2.2.2.2.2.2.2.below hb, hl⟩
  clear hl hb H14
  go_wp2_with fail
  refine (join_ok (H15.out.2.2.2.2.2.2.2.2.2.2.2.2.1) (H15.out.2.2.2.2.2.2.2.2.2.2.2.2.2.2.1) (ru_whole a b) (by have := HN.out; omega)).mono ?_
  rintro e w16 ⟨u_whole, rfl, hl, hb⟩
  have H16 : Hid (Below w.heap.size w w16 ∧ Lsx w16 (.slice oa a.length ca) a ∧ Lsx w16 (.slice ob b.length cb) b ∧ Lsx w16 (.slice oc c.length cc) c ∧ Lsx w16 u_f (formF false a []) ∧ Lsx w16 u_g (formF false b []) ∧ Lsx w16 u_o (formF false c []) ∧ Lsx w16 u_again (formF false a []) ∧ Lsx w16 u_bk (bckL a) ∧ Lsx w16 u_turned (formF false a []) ∧ Lsx w16 u_ab (formF false (a ++ b) []) ∧ Lsx w16 u_ba (formF false (a ++ b) []) ∧ Lsx w16 u_m (formF true a b) ∧ Lsx w16 u_n (formF true a b) ∧ Lsx w16 u_l (formF false a b) ∧ Lsx w16 u_bc (formF false (b ++ c) []) ∧ Lsx w16 u_left (formF false (a ++ b ++ c) []) ∧ Lsx w16 u_right (formF false (a ++ b ++ c) []) ∧ Lsx w16 u_whole (formF false a [])) := ⟨bel_tr H15.out.1 hb, H15.out.2.1.below hb, H15.out.2.2.1.below hb, H15.out.2.2.2.1.below hb, H15.out.2.2.2.2.1.below hb, H15.out.2.2.2.2.2.1.below hb, H15.out.2.2.2.2.2.2.1.below hb, H15.out.2.2.2.2.2.2.2.1.below hb, H15.out.2.2.2.2.2.2.2.2.1.below hb, H15.out.2.2.2.2.2.2.2.2.2.1.below hb, H15.out.2.2.2.2.2.2.2.2.2.2.1.below hb, H15.out.2.2.2.2.2.2.2.2.2.2.2.1.below hb, H15.out.2.2.2.2.2.2.2.2.2.2.2.2.1.below hb, H15.out.2.2.2.2.2.2.2.2.2.2.2.2.2.1.below hb, H15.out.2.2.2.2.2.2.2.2.2.2.2.2.2.2.1.below hb, H15.out.2.2.2.2.2.2.2.2.2.2.2.2.2.2.2.1.below hb, H15.out.2.2.2.2.2.2.2.2.2.2.2.2.2.2.2.2.1.below hb, H15.out.2.2.2.2.2.2.2.2.2.2.2.2.2.2.2.2.2.below hb, hl⟩
  clear hl hb H15
  go_wp2_with fail
  refine (meet_ok (H16.out.2.2.2.2.2.2.2.2.2.2.2.2.2.2.1) (H16.out.2.2.1) (ru_none a b) (Nat.zero_le _)).mono ?_
  rintro e w17 ⟨u_none, rfl, hl, hb⟩
  have H17 : Hid (Below w.heap.size w w17 ∧ Lsx w17 (.slice oa a.length ca) a ∧ Lsx w17 (.slice ob b.length cb) b ∧ Lsx w17 (.slice oc c.length cc) c ∧ Lsx w17 u_f (formF false a []) ∧ Lsx w17 u_g (formF false b []) ∧ Lsx w17 u_o (formF false c []) ∧ Lsx w17 u_again (formF false a []) ∧ Lsx w17 u_bk (bckL a) ∧ Lsx w17 u_turned (formF false a []) ∧ Lsx w17 u_ab (formF false (a ++ b) []) ∧ Lsx w17 u_ba (formF false (a ++ b) []) ∧ Lsx w17 u_m (formF true a b) ∧ Lsx w17 u_n (formF true a b) ∧ Lsx w17 u_l (formF false a b) ∧ Lsx w17 u_bc (formF false (b ++ c) []) ∧ Lsx w17 u_left (formF false (a ++ b ++ c) []) ∧ Lsx w17 u_right (formF false (a ++ b ++ c) []) ∧ Lsx w17 u_whole (formF false a []) ∧ Lsx w17 u_none ([])) := ⟨bel_tr H16.out.1 hb, H16.out.2.1.below hb, H16.out.2.2.1.below hb, H16.out.2.2.2.1.below hb, H16.out.2.2.2.2.1.below hb, H16.out.2.2.2.2.2.1.below hb, H16.out.2.2.2.2.2.2.1.below hb, H16.out.2.2.2.2.2.2.2.1.below hb, H16.out.2.2.2.2.2.2.2.2.1.below hb, H16.out.2.2.2.2.2.2.2.2.2.1.below hb, H16.out.2.2.2.2.2.2.2.2.2.2.1.below hb, H16.out.2.2.2.2.2.2.2.2.2.2.2.1.below hb, H16.out.2.2.2.2.2.2.2.2.2.2.2.2.1.below hb, H16.out.2.2.2.2.2.2.2.2.2.2.2.2.2.1.below hb, H16.out.2.2.2.2.2.2.2.2.2.2.2.2.2.2.1.below hb, H16.out.2.2.2.2.2.2.2.2.2.2.2.2.2.2.2.1.below hb, H16.out.2.2.2.2.2.2.2.2.2.2.2.2.2.2.2.2.1.below hb, H16.out.2.2.2.2.2.2.2.2.2.2.2.2.2.2.2.2.2.1.below hb, H16.out.2.2.2.2.2.2.2.2.2.2.2.2.2.2.2.2.2.2.below hb, hl⟩
  clear hl hb H16
  go_wp2_with fail
  refine (same_ok (H17.out.2.1) (H17.out.2.2.1)).mono ?_
  rintro e w18 ⟨rfl, hb⟩
  have H18 : Hid (Below w.heap.size w w18 ∧ Lsx w18 (.slice oa a.length ca) a ∧ Lsx w18 (.slice ob b.length cb) b ∧ Lsx w18 (.slice oc c.length cc) c ∧ Lsx w18 u_f (formF false a []) ∧ Lsx w18 u_g (formF false b []) ∧ Lsx w18 u_o (formF false c []) ∧ Lsx w18 u_again (formF false a []) ∧ Lsx w18 u_bk (bckL a) ∧ Lsx w18 u_turned (formF false a []) ∧ Lsx w18 u_ab (formF false (a ++ b) []) ∧ Lsx w18 u_ba (formF false (a ++ b) []) ∧ Lsx w18 u_m (formF true a b) ∧ Lsx w18 u_n (formF true a b) ∧ Lsx w18 u_l (formF false a b) ∧ Lsx w18 u_bc (formF false (b ++ c) []) ∧ Lsx w18 u_left (formF false (a ++ b ++ c) []) ∧ Lsx w18 u_right (formF false (a ++ b ++ c) []) ∧ Lsx w18 u_whole (formF false a []) ∧ Lsx w18 u_none ([])) := ⟨bel_tr H17.out.1 hb, H17.out.2.1.below hb, H17.out.2.2.1.below hb, H17.out.2.2.2.1.below hb, H17.out.2.2.2.2.1.below hb, H17.out.2.2.2.2.2.1.below hb, H17.out.2.2.2.2.2.2.1.below hb, H17.out.2.2.2.2.2.2.2.1.below hb, H17.out.2.2.2.2.2.2.2.2.1.below hb, H17.out.2.2.2.2.2.2.2.2.2.1.below hb, H17.out.2.2.2.2.2.2.2.2.2.2.1.below hb, H17.out.2.2.2.2.2.2.2.2.2.2.2.1.below hb, H17.out.2.2.2.2.2.2.2.2.2.2.2.2.1.below hb, H17.out.2.2.2.2.2.2.2.2.2.2.2.2.2.1.below hb, H17.out.2.2.2.2.2.2.2.2.2.2.2.2.2.2.1.below hb, H17.out.2.2.2.2.2.2.2.2.2.2.2.2.2.2.2.1.below hb, H17.out.2.2.2.2.2.2.2.2.2.2.2.2.2.2.2.2.1.below hb, H17.out.2.2.2.2.2.2.2.2.2.2.2.2.2.2.2.2.2.1.below hb, H17.out.2.2.2.2.2.2.2.2.2.2.2.2.2.2.2.2.2.2.1.below hb, H17.out.2.2.2.2.2.2.2.2.2.2.2.2.2.2.2.2.2.2.2.below hb⟩
  clear hb H17
  go_wp2_with fail
  refine (area_ok (H18.out.2.2.2.2.2.2.2.2.2.2.1)).mono ?_
  rintro e w19 ⟨rfl, hb⟩
  have H19 : Hid (Below w.heap.size w w19 ∧ Lsx w19 (.slice oa a.length ca) a ∧ Lsx w19 (.slice ob b.length cb) b ∧ Lsx w19 (.slice oc c.length cc) c ∧ Lsx w19 u_f (formF false a []) ∧ Lsx w19 u_g (formF false b []) ∧ Lsx w19 u_o (formF false c []) ∧ Lsx w19 u_again (formF false a []) ∧ Lsx w19 u_bk (bckL a) ∧ Lsx w19 u_turned (formF false a []) ∧ Lsx w19 u_ab (formF false (a ++ b) []) ∧ Lsx w19 u_ba (formF false (a ++ b) []) ∧ Lsx w19 u_m (formF true a b) ∧ Lsx w19 u_n (formF true a b) ∧ Lsx w19 u_l (formF false a b) ∧ Lsx w19 u_bc (formF false (b ++ c) []) ∧ Lsx w19 u_left (formF false (a ++ b ++ c) []) ∧ Lsx w19 u_right (formF false (a ++ b ++ c) []) ∧ Lsx w19 u_whole (formF false a []) ∧ Lsx w19 u_none ([])) := ⟨bel_tr H18.out.1 hb, H18.out.2.1.below hb, H18.out.2.2.1.below hb, H18.out.2.2.2.1.below hb, H18.out.2.2.2.2.1.below hb, H18.out.2.2.2.2.2.1.below hb, H18.out.2.2.2.2.2.2.1.below hb, H18.out.2.2.2.2.2.2.2.1.below hb, H18.out.2.2.2.2.2.2.2.2.1.below hb, H18.out.2.2.2.2.2.2.2.2.2.1.below hb, H18.out.2.2.2.2.2.2.2.2.2.2.1.below hb, H18.out.2.2.2.2.2.2.2.2.2.2.2.1.below hb, H18.out.2.2.2.2.2.2.2.2.2.2.2.2.1.below hb, H18.out.2.2.2.2.2.2.2.2.2.2.2.2.2.1.below hb, H18.out.2.2.2.2.2.2.2.2.2.2.2.2.2.2.1.below hb, H18.out.2.2.2.2.2.2.2.2.2.2.2.2.2.2.2.1.below hb, H18.out.2.2.2.2.2.2.2.2.2.2.2.2.2.2.2.2.1.below hb, H18.out.2.2.2.2.2.2.2.2.2.2.2.2.2.2.2.2.2.1.below hb, H18.out.2.2.2.2.2.2.2.2.2.2.2.2.2.2.2.2.2.2.1.below hb, H18.out.2.2.2.2.2.2.2.2.2.2.2.2.2.2.2.2.2.2.2.below hb⟩
  clear hb H18
  go_wp2_with fail
  refine (area_ok (H19.out.2.2.2.2.2.2.2.2.2.2.2.2.1)).mono ?_
  rintro e w20 ⟨rfl, hb⟩
  have H20 : Hid (Below w.heap.size w w20 ∧ Lsx w20 (.slice oa a.length ca) a ∧ Lsx w20 (.slice ob b.length cb) b ∧ Lsx w20 (.slice oc c.length cc) c ∧ Lsx w20 u_f (formF false a []) ∧ Lsx w20 u_g (formF false b []) ∧ Lsx w20 u_o (formF false c []) ∧ Lsx w20 u_again (formF false a []) ∧ Lsx w20 u_bk (bckL a) ∧ Lsx w20 u_turned (formF false a []) ∧ Lsx w20 u_ab (formF false (a ++ b) []) ∧ Lsx w20 u_ba (formF false (a ++ b) []) ∧ Lsx w20 u_m (formF true a b) ∧ Lsx w20 u_n (formF true a b) ∧ Lsx w20 u_l (formF false a b) ∧ Lsx w20 u_bc (formF false (b ++ c) []) ∧ Lsx w20 u_left (formF false (a ++ b ++ c) []) ∧ Lsx w20 u_right (formF false (a ++ b ++ c) []) ∧ Lsx w20 u_whole (formF false a []) ∧ Lsx w20 u_none ([])) := ⟨bel_tr H19.out.1 hb, H19.out.2.1.below hb, H19.out.2.2.1.below hb, H19.out.2.2.2.1.below hb, H19.out.2.2.2.2.1.below hb, H19.out.2.2.2.2.2.1.below hb, H19.out.2.2.2.2.2.2.1.below hb, H19.out.2.2.2.2.2.2.2.1.below hb, H19.out.2.2.2.2.2.2.2.2.1.below hb, H19.out.2.2.2.2.2.2.2.2.2.1.below hb, H19.out.2.2.2.2.2.2.2.2.2.2.1.below hb, H19.out.2.2.2.2.2.2.2.2.2.2.2.1.below hb, H19.out.2.2.2.2.2.2.2.2.2.2.2.2.1.below hb, H19.out.2.2.2.2.2.2.2.2.2.2.2.2.2.1.below hb, H19.out.2.2.2.2.2.2.2.2.2.2.2.2.2.2.1.below hb, H19.out.2.2.2.2.2.2.2.2.2.2.2.2.2.2.2.1.below hb, H19.out.2.2.2.2.2.2.2.2.2.2.2.2.2.2.2.2.1.below hb, H19.out.2.2.2.2.2.2.2.2.2.2.2.2.2.2.2.2.2.1.below hb, H19.out.2.2.2.2.2.2.2.2.2.2.2.2.2.2.2.2.2.2.1.below hb, H19.out.2.2.2.2.2.2.2.2.2.2.2.2.2.2.2.2.2.2.2.below hb⟩
  clear hb H19
  go_wp2_with fail
  refine (area_ok (H20.out.2.1)).mono ?_
  rintro e w21 ⟨rfl, hb⟩
  have H21 : Hid (Below w.heap.size w w21 ∧ Lsx w21 (.slice oa a.length ca) a ∧ Lsx w21 (.slice ob b.length cb) b ∧ Lsx w21 (.slice oc c.length cc) c ∧ Lsx w21 u_f (formF false a []) ∧ Lsx w21 u_g (formF false b []) ∧ Lsx w21 u_o (formF false c []) ∧ Lsx w21 u_again (formF false a []) ∧ Lsx w21 u_bk (bckL a) ∧ Lsx w21 u_turned (formF false a []) ∧ Lsx w21 u_ab (formF false (a ++ b) []) ∧ Lsx w21 u_ba (formF false (a ++ b) []) ∧ Lsx w21 u_m (formF true a b) ∧ Lsx w21 u_n (formF true a b) ∧ Lsx w21 u_l (formF false a b) ∧ Lsx w21 u_bc (formF false (b ++ c) []) ∧ Lsx w21 u_left (formF false (a ++ b ++ c) []) ∧ Lsx w21 u_right (formF false (a ++ b ++ c) []) ∧ Lsx w21 u_whole (formF false a []) ∧ Lsx w21 u_none ([])) := ⟨bel_tr H20.out.1 hb, H20.out.2.1.below hb, H20.out.2.2.1.below hb, H20.out.2.2.2.1.below hb, H20.out.2.2.2.2.1.below hb, H20.out.2.2.2.2.2.1.below hb, H20.out.2.2.2.2.2.2.1.below hb, H20.out.2.2.2.2.2.2.2.1.below hb, H20.out.2.2.2.2.2.2.2.2.1.below hb, H20.out.2.2.2.2.2.2.2.2.2.1.below hb, H20.out.2.2.2.2.2.2.2.2.2.2.1.below hb, H20.out.2.2.2.2.2.2.2.2.2.2.2.1.below hb, H20.out.2.2.2.2.2.2.2.2.2.2.2.2.1.below hb, H20.out.2.2.2.2.2.2.2.2.2.2.2.2.2.1.below hb, H20.out.2.2.2.2.2.2.2.2.2.2.2.2.2.2.1.below hb, H20.out.2.2.2.2.2.2.2.2.2.2.2.2.2.2.2.1.below hb, H20.out.2.2.2.2.2.2.2.2.2.2.2.2.2.2.2.2.1.below hb, H20.out.2.2.2.2.2.2.2.2.2.2.2.2.2.2.2.2.2.1.below hb, H20.out.2.2.2.2.2.2.2.2.2.2.2.2.2.2.2.2.2.2.1.below hb, H20.out.2.2.2.2.2.2.2.2.2.2.2.2.2.2.2.2.2.2.2.below hb⟩
  clear hb H20
  go_wp2_with fail
  refine (area_ok (H21.out.2.2.1)).mono ?_
  rintro e w22 ⟨rfl, hb⟩
  have H22 : Hid (Below w.heap.size w w22 ∧ Lsx w22 (.slice oa a.length ca) a ∧ Lsx w22 (.slice ob b.length cb) b ∧ Lsx w22 (.slice oc c.length cc) c ∧ Lsx w22 u_f (formF false a []) ∧ Lsx w22 u_g (formF false b []) ∧ Lsx w22 u_o (formF false c []) ∧ Lsx w22 u_again (formF false a []) ∧ Lsx w22 u_bk (bckL a) ∧ Lsx w22 u_turned (formF false a []) ∧ Lsx w22 u_ab (formF false (a ++ b) []) ∧ Lsx w22 u_ba (formF false (a ++ b) []) ∧ Lsx w22 u_m (formF true a b) ∧ Lsx w22 u_n (formF true a b) ∧ Lsx w22 u_l (formF false a b) ∧ Lsx w22 u_bc (formF false (b ++ c) []) ∧ Lsx w22 u_left (formF false (a ++ b ++ c) []) ∧ Lsx w22 u_right (formF false (a ++ b ++ c) []) ∧ Lsx w22 u_whole (formF false a []) ∧ Lsx w22 u_none ([])) := ⟨bel_tr H21.out.1 hb, H21.out.2.1.below hb, H21.out.2.2.1.below hb, H21.out.2.2.2.1.below hb, H21.out.2.2.2.2.1.below hb, H21.out.2.2.2.2.2.1.below hb, H21.out.2.2.2.2.2.2.1.below hb, H21.out.2.2.2.2.2.2.2.1.below hb, H21.out.2.2.2.2.2.2.2.2.1.below hb, H21.out.2.2.2.2.2.2.2.2.2.1.below hb, H21.out.2.2.2.2.2.2.2.2.2.2.1.below hb, H21.out.2.2.2.2.2.2.2.2.2.2.2.1.below hb, H21.out.2.2.2.2.2.2.2.2.2.2.2.2.1.below hb, H21.out.2.2.2.2.2.2.2.2.2.2.2.2.2.1.below hb, H21.out.2.2.2.2.2.2.2.2.2.2.2.2.2.2.1.below hb, H21.out.2.2.2.2.2.2.2.2.2.2.2.2.2.2.2.1.below hb, H21.out.2.2.2.2.2.2.2.2.2.2.2.2.2.2.2.2.1.below hb, H21.out.2.2.2.2.2.2.2.2.2.2.2.2.2.2.2.2.2.1.below hb, H21.out.2.2.2.2.2.2.2.2.2.2.2.2.2.2.2.2.2.2.1.below hb, H21.out.2.2.2.2.2.2.2.2.2.2.2.2.2.2.2.2.2.2.2.below hb⟩
  clear hb H21
  have hN := HN.out
  have hAr := HAr.out
  have B1 : 0 ≤ arS (formF false (formF false (a ++ b) []) []) ∧ arS (formF false (formF false (a ++ b) []) []) ≤ 500000000000 := by
    rw [form_form]; have := arS_bd (formF false (a ++ b) []); omega
  have B2 : 0 ≤ arS (formF false (formF true a b) []) ∧ arS (formF false (formF true a b) []) ≤ 500000000000 := by
    rw [form_form]; have := arS_bd (formF true a b); omega
  have B3 : 0 ≤ arS (formF false a []) ∧ arS (formF false a []) ≤ 500000000000 := by have := arS_bd (formF false a []); omega
  have B4 : 0 ≤ arS (formF false b []) ∧ arS (formF false b []) ≤ 500000000000 := by have := arS_bd (formF false b []); omega
  clear hN HAr
  generalize arS (formF false (formF false (a ++ b) []) []) = N1 at *
  generalize arS (formF false (formF true a b) []) = N2 at *
  generalize arS (formF false a []) = N3 at *
  generalize arS (formF false b []) = N4 at *
  obtain ⟨on, cn, en, _, _⟩ := id (H22.out.2.2.2.2.2.2.2.2.2.2.2.2.2.2.2.2.2.2.2).1
  rw [List.length_nil] at en
  subst en
  go_wp2_with fail
  refine (sameW_ok (H22.out.2.2.2.2.2.2.2.1) (H22.out.2.2.2.2.1) (by have := HN.out; omega)).mono ?_
  rintro e w23 ⟨rfl, hb⟩
  have H23 : Hid (Below w.heap.size w w23 ∧ Lsx w23 (.slice oa a.length ca) a ∧ Lsx w23 (.slice ob b.length cb) b ∧ Lsx w23 (.slice oc c.length cc) c ∧ Lsx w23 u_f (formF false a []) ∧ Lsx w23 u_g (formF false b []) ∧ Lsx w23 u_o (formF false c []) ∧ Lsx w23 u_again (formF false a []) ∧ Lsx w23 u_bk (bckL a) ∧ Lsx w23 u_turned (formF false a []) ∧ Lsx w23 u_ab (formF false (a ++ b) []) ∧ Lsx w23 u_ba (formF false (a ++ b) []) ∧ Lsx w23 u_m (formF true a b) ∧ Lsx w23 u_n (formF true a b) ∧ Lsx w23 u_l (formF false a b) ∧ Lsx w23 u_bc (formF false (b ++ c) []) ∧ Lsx w23 u_left (formF false (a ++ b ++ c) []) ∧ Lsx w23 u_right (formF false (a ++ b ++ c) []) ∧ Lsx w23 u_whole (formF false a []) ∧ Lsx w23 (.slice on 0 cn) ([])) := ⟨bel_tr H22.out.1 hb, H22.out.2.1.below hb, H22.out.2.2.1.below hb, H22.out.2.2.2.1.below hb, H22.out.2.2.2.2.1.below hb, H22.out.2.2.2.2.2.1.below hb, H22.out.2.2.2.2.2.2.1.below hb, H22.out.2.2.2.2.2.2.2.1.below hb, H22.out.2.2.2.2.2.2.2.2.1.below hb, H22.out.2.2.2.2.2.2.2.2.2.1.below hb, H22.out.2.2.2.2.2.2.2.2.2.2.1.below hb, H22.out.2.2.2.2.2.2.2.2.2.2.2.1.below hb, H22.out.2.2.2.2.2.2.2.2.2.2.2.2.1.below hb, H22.out.2.2.2.2.2.2.2.2.2.2.2.2.2.1.below hb, H22.out.2.2.2.2.2.2.2.2.2.2.2.2.2.2.1.below hb, H22.out.2.2.2.2.2.2.2.2.2.2.2.2.2.2.2.1.below hb, H22.out.2.2.2.2.2.2.2.2.2.2.2.2.2.2.2.2.1.below hb, H22.out.2.2.2.2.2.2.2.2.2.2.2.2.2.2.2.2.2.1.below hb, H22.out.2.2.2.2.2.2.2.2.2.2.2.2.2.2.2.2.2.2.1.below hb, H22.out.2.2.2.2.2.2.2.2.2.2.2.2.2.2.2.2.2.2.2.below hb⟩
  clear hb H22
  go_wp2_with fail
  refine (sameW_ok (H23.out.2.2.2.2.2.2.2.2.2.1) (H23.out.2.2.2.2.1) (by have := HN.out; omega)).mono ?_
  rintro e w24 ⟨rfl, hb⟩
  have H24 : Hid (Below w.heap.size w w24 ∧ Lsx w24 (.slice oa a.length ca) a ∧ Lsx w24 (.slice ob b.length cb) b ∧ Lsx w24 (.slice oc c.length cc) c ∧ Lsx w24 u_f (formF false a []) ∧ Lsx w24 u_g (formF false b []) ∧ Lsx w24 u_o (formF false c []) ∧ Lsx w24 u_again (formF false a []) ∧ Lsx w24 u_bk (bckL a) ∧ Lsx w24 u_turned (formF false a []) ∧ Lsx w24 u_ab (formF false (a ++ b) []) ∧ Lsx w24 u_ba (formF false (a ++ b) []) ∧ Lsx w24 u_m (formF true a b) ∧ Lsx w24 u_n (formF true a b) ∧ Lsx w24 u_l (formF false a b) ∧ Lsx w24 u_bc (formF false (b ++ c) []) ∧ Lsx w24 u_left (formF false (a ++ b ++ c) []) ∧ Lsx w24 u_right (formF false (a ++ b ++ c) []) ∧ Lsx w24 u_whole (formF false a []) ∧ Lsx w24 (.slice on 0 cn) ([])) := ⟨bel_tr H23.out.1 hb, H23.out.2.1.below hb, H23.out.2.2.1.below hb, H23.out.2.2.2.1.below hb, H23.out.2.2.2.2.1.below hb, H23.out.2.2.2.2.2.1.below hb, H23.out.2.2.2.2.2.2.1.below hb, H23.out.2.2.2.2.2.2.2.1.below hb, H23.out.2.2.2.2.2.2.2.2.1.below hb, H23.out.2.2.2.2.2.2.2.2.2.1.below hb, H23.out.2.2.2.2.2.2.2.2.2.2.1.below hb, H23.out.2.2.2.2.2.2.2.2.2.2.2.1.below hb, H23.out.2.2.2.2.2.2.2.2.2.2.2.2.1.below hb, H23.out.2.2.2.2.2.2.2.2.2.2.2.2.2.1.below hb, H23.out.2.2.2.2.2.2.2.2.2.2.2.2.2.2.1.below hb, H23.out.2.2.2.2.2.2.2.2.2.2.2.2.2.2.2.1.below hb, H23.out.2.2.2.2.2.2.2.2.2.2.2.2.2.2.2.2.1.below hb, H23.out.2.2.2.2.2.2.2.2.2.2.2.2.2.2.2.2.2.1.below hb, H23.out.2.2.2.2.2.2.2.2.2.2.2.2.2.2.2.2.2.2.1.below hb, H23.out.2.2.2.2.2.2.2.2.2.2.2.2.2.2.2.2.2.2.2.below hb⟩
  clear hb H23
  go_wp2_with fail
  refine (sameW_ok (H24.out.2.2.2.2.2.2.2.2.2.2.1) (H24.out.2.2.2.2.2.2.2.2.2.2.2.1) (by have := HN.out; omega)).mono ?_
  rintro e w25 ⟨rfl, hb⟩
  have H25 : Hid (Below w.heap.size w w25 ∧ Lsx w25 (.slice oa a.length ca) a ∧ Lsx w25 (.slice ob b.length cb) b ∧ Lsx w25 (.slice oc c.length cc) c ∧ Lsx w25 u_f (formF false a []) ∧ Lsx w25 u_g (formF false b []) ∧ Lsx w25 u_o (formF false c []) ∧ Lsx w25 u_again (formF false a []) ∧ Lsx w25 u_bk (bckL a) ∧ Lsx w25 u_turned (formF false a []) ∧ Lsx w25 u_ab (formF false (a ++ b) []) ∧ Lsx w25 u_ba (formF false (a ++ b) []) ∧ Lsx w25 u_m (formF true a b) ∧ Lsx w25 u_n (formF true a b) ∧ Lsx w25 u_l (formF false a b) ∧ Lsx w25 u_bc (formF false (b ++ c) []) ∧ Lsx w25 u_left (formF false (a ++ b ++ c) []) ∧ Lsx w25 u_right (formF false (a ++ b ++ c) []) ∧ Lsx w25 u_whole (formF false a []) ∧ Lsx w25 (.slice on 0 cn) ([])) := ⟨bel_tr H24.out.1 hb, H24.out.2.1.below hb, H24.out.2.2.1.below hb, H24.out.2.2.2.1.below hb, H24.out.2.2.2.2.1.below hb, H24.out.2.2.2.2.2.1.below hb, H24.out.2.2.2.2.2.2.1.below hb, H24.out.2.2.2.2.2.2.2.1.below hb, H24.out.2.2.2.2.2.2.2.2.1.below hb, H24.out.2.2.2.2.2.2.2.2.2.1.below hb, H24.out.2.2.2.2.2.2.2.2.2.2.1.below hb, H24.out.2.2.2.2.2.2.2.2.2.2.2.1.below hb, H24.out.2.2.2.2.2.2.2.2.2.2.2.2.1.below hb, H24.out.2.2.2.2.2.2.2.2.2.2.2.2.2.1.below hb, H24.out.2.2.2.2.2.2.2.2.2.2.2.2.2.2.1.below hb, H24.out.2.2.2.2.2.2.2.2.2.2.2.2.2.2.2.1.below hb, H24.out.2.2.2.2.2.2.2.2.2.2.2.2.2.2.2.2.1.below hb, H24.out.2.2.2.2.2.2.2.2.2.2.2.2.2.2.2.2.2.1.below hb, H24.out.2.2.2.2.2.2.2.2.2.2.2.2.2.2.2.2.2.2.1.below hb, H24.out.2.2.2.2.2.2.2.2.2.2.2.2.2.2.2.2.2.2.2.below hb⟩
  clear hb H24
  go_wp2_with fail
  refine (sameW_ok (H25.out.2.2.2.2.2.2.2.2.2.2.2.2.1) (H25.out.2.2.2.2.2.2.2.2.2.2.2.2.2.1) (by have := HN.out; omega)).mono ?_
  rintro e w26 ⟨rfl, hb⟩
  have H26 : Hid (Below w.heap.size w w26 ∧ Lsx w26 (.slice oa a.length ca) a ∧ Lsx w26 (.slice ob b.length cb) b ∧ Lsx w26 (.slice oc c.length cc) c ∧ Lsx w26 u_f (formF false a []) ∧ Lsx w26 u_g (formF false b []) ∧ Lsx w26 u_o (formF false c []) ∧ Lsx w26 u_again (formF false a []) ∧ Lsx w26 u_bk (bckL a) ∧ Lsx w26 u_turned (formF false a []) ∧ Lsx w26 u_ab (formF false (a ++ b) []) ∧ Lsx w26 u_ba (formF false (a ++ b) []) ∧ Lsx w26 u_m (formF true a b) ∧ Lsx w26 u_n (formF true a b) ∧ Lsx w26 u_l (formF false a b) ∧ Lsx w26 u_bc (formF false (b ++ c) []) ∧ Lsx w26 u_left (formF false (a ++ b ++ c) []) ∧ Lsx w26 u_right (formF false (a ++ b ++ c) []) ∧ Lsx w26 u_whole (formF false a []) ∧ Lsx w26 (.slice on 0 cn) ([])) := ⟨bel_tr H25.out.1 hb, H25.out.2.1.below hb, H25.out.2.2.1.below hb, H25.out.2.2.2.1.below hb, H25.out.2.2.2.2.1.below hb, H25.out.2.2.2.2.2.1.below hb, H25.out.2.2.2.2.2.2.1.below hb, H25.out.2.2.2.2.2.2.2.1.below hb, H25.out.2.2.2.2.2.2.2.2.1.below hb, H25.out.2.2.2.2.2.2.2.2.2.1.below hb, H25.out.2.2.2.2.2.2.2.2.2.2.1.below hb, H25.out.2.2.2.2.2.2.2.2.2.2.2.1.below hb, H25.out.2.2.2.2.2.2.2.2.2.2.2.2.1.below hb, H25.out.2.2.2.2.2.2.2.2.2.2.2.2.2.1.below hb, H25.out.2.2.2.2.2.2.2.2.2.2.2.2.2.2.1.below hb, H25.out.2.2.2.2.2.2.2.2.2.2.2.2.2.2.2.1.below hb, H25.out.2.2.2.2.2.2.2.2.2.2.2.2.2.2.2.2.1.below hb, H25.out.2.2.2.2.2.2.2.2.2.2.2.2.2.2.2.2.2.1.below hb, H25.out.2.2.2.2.2.2.2.2.2.2.2.2.2.2.2.2.2.2.1.below hb, H25.out.2.2.2.2.2.2.2.2.2.2.2.2.2.2.2.2.2.2.2.below hb⟩
  clear hb H25
  go_wp2_with fail
  refine (sameW_ok (H26.out.2.2.2.2.2.2.2.2.2.2.2.2.2.2.2.2.1) (H26.out.2.2.2.2.2.2.2.2.2.2.2.2.2.2.2.2.2.1) (by have := HN.out; omega)).mono ?_
  rintro e w27 ⟨rfl, hb⟩
  have H27 : Hid (Below w.heap.size w w27 ∧ Lsx w27 (.slice oa a.length ca) a ∧ Lsx w27 (.slice ob b.length cb) b ∧ Lsx w27 (.slice oc c.length cc) c ∧ Lsx w27 u_f (formF false a []) ∧ Lsx w27 u_g (formF false b []) ∧ Lsx w27 u_o (formF false c []) ∧ Lsx w27 u_again (formF false a []) ∧ Lsx w27 u_bk (bckL a) ∧ Lsx w27 u_turned (formF false a []) ∧ Lsx w27 u_ab (formF false (a ++ b) []) ∧ Lsx w27 u_ba (formF false (a ++ b) []) ∧ Lsx w27 u_m (formF true a b) ∧ Lsx w27 u_n (formF true a b) ∧ Lsx w27 u_l (formF false a b) ∧ Lsx w27 u_bc (formF false (b ++ c) []) ∧ Lsx w27 u_left (formF false (a ++ b ++ c) []) ∧ Lsx w27 u_right (formF false (a ++ b ++ c) []) ∧ Lsx w27 u_whole (formF false a []) ∧ Lsx w27 (.slice on 0 cn) ([])) := ⟨bel_tr H26.out.1 hb, H26.out.2.1.below hb, H26.out.2.2.1.below hb, H26.out.2.2.2.1.below hb, H26.out.2.2.2.2.1.below hb, H26.out.2.2.2.2.2.1.below hb, H26.out.2.2.2.2.2.2.1.below hb, H26.out.2.2.2.2.2.2.2.1.below hb, H26.out.2.2.2.2.2.2.2.2.1.below hb, H26.out.2.2.2.2.2.2.2.2.2.1.below hb, H26.out.2.2.2.2.2.2.2.2.2.2.1.below hb, H26.out.2.2.2.2.2.2.2.2.2.2.2.1.below hb, H26.out.2.2.2.2.2.2.2.2.2.2.2.2.1.below hb, H26.out.2.2.2.2.2.2.2.2.2.2.2.2.2.1.below hb, H26.out.2.2.2.2.2.2.2.2.2.2.2.2.2.2.1.below hb, H26.out.2.2.2.2.2.2.2.2.2.2.2.2.2.2.2.1.below hb, H26.out.2.2.2.2.2.2.2.2.2.2.2.2.2.2.2.2.1.below hb, H26.out.2.2.2.2.2.2.2.2.2.2.2.2.2.2.2.2.2.1.below hb, H26.out.2.2.2.2.2.2.2.2.2.2.2.2.2.2.2.2.2.2.1.below hb, H26.out.2.2.2.2.2.2.2.2.2.2.2.2.2.2.2.2.2.2.2.below hb⟩
  clear hb H26
  go_wp2_with fail
  refine (sameW_ok (H27.out.2.2.2.2.2.2.2.2.2.2.2.2.2.2.2.2.2.2.1) (H27.out.2.2.2.2.1) (by have := HN.out; omega)).mono ?_
  rintro e w28 ⟨rfl, hb⟩
  have H28 : Hid (Below w.heap.size w w28 ∧ Lsx w28 (.slice oa a.length ca) a ∧ Lsx w28 (.slice ob b.length cb) b ∧ Lsx w28 (.slice oc c.length cc) c ∧ Lsx w28 u_f (formF false a []) ∧ Lsx w28 u_g (formF false b []) ∧ Lsx w28 u_o (formF false c []) ∧ Lsx w28 u_again (formF false a []) ∧ Lsx w28 u_bk (bckL a) ∧ Lsx w28 u_turned (formF false a []) ∧ Lsx w28 u_ab (formF false (a ++ b) []) ∧ Lsx w28 u_ba (formF false (a ++ b) []) ∧ Lsx w28 u_m (formF true a b) ∧ Lsx w28 u_n (formF true a b) ∧ Lsx w28 u_l (formF false a b) ∧ Lsx w28 u_bc (formF false (b ++ c) []) ∧ Lsx w28 u_left (formF false (a ++ b ++ c) []) ∧ Lsx w28 u_right (formF false (a ++ b ++ c) []) ∧ Lsx w28 u_whole (formF false a []) ∧ Lsx w28 (.slice on 0 cn) ([])) := ⟨bel_tr H27.out.1 hb, H27.out.2.1.below hb, H27.out.2.2.1.below hb, H27.out.2.2.2.1.below hb, H27.out.2.2.2.2.1.below hb, H27.out.2.2.2.2.2.1.below hb, H27.out.2.2.2.2.2.2.1.below hb, H27.out.2.2.2.2.2.2.2.1.below hb, H27.out.2.2.2.2.2.2.2.2.1.below hb, H27.out.2.2.2.2.2.2.2.2.2.1.below hb, H27.out.2.2.2.2.2.2.2.2.2.2.1.below hb, H27.out.2.2.2.2.2.2.2.2.2.2.2.1.below hb, H27.out.2.2.2.2.2.2.2.2.2.2.2.2.1.below hb, H27.out.2.2.2.2.2.2.2.2.2.2.2.2.2.1.below hb, H27.out.2.2.2.2.2.2.2.2.2.2.2.2.2.2.1.below hb, H27.out.2.2.2.2.2.2.2.2.2.2.2.2.2.2.2.1.below hb, H27.out.2.2.2.2.2.2.2.2.2.2.2.2.2.2.2.2.1.below hb, H27.out.2.2.2.2.2.2.2.2.2.2.2.2.2.2.2.2.2.1.below hb, H27.out.2.2.2.2.2.2.2.2.2.2.2.2.2.2.2.2.2.2.1.below hb, H27.out.2.2.2.2.2.2.2.2.2.2.2.2.2.2.2.2.2.2.2.below hb⟩
  clear hb H27
  go_wp2_with fail
  refine (sameV_ok (H28.out.2.2.2.2.1) (H28.out.2.2.2.2.2.1) (by have := HN.out; omega)).mono ?_
  rintro e w29 ⟨rfl, hb⟩
  have HZ : Hid (Below w.heap.size w w29) := bel_tr H28.out.1 hb
  clear hb H28
  go_wp2
  go_ret
  exact ⟨rfl, HZ.out⟩

end Go.Proofs.Ytiggenjdibmnlaa
