/-
  GridLeast: in the widths all find room; whatever other ones in which all do are not less wide.
-/
import Derived.Test.YthnhcphkpffkfaaYY3
import Derived.Test.YthnhcphkpffkfaaYN
import Derived.Test.YthnhcphkpffkfaaYO
import Derived.Deep.CutBlock
namespace Go.Proofs.Ythnhcphkpffkfaa
open Go.RowKit
attribute [local go_sem] ite_maxK ite_minK

set_option maxRecDepth 10000 in
set_option maxHeartbeats 8000000 in
theorem gleast_ok (s m o : List Int) (col gap : Int) (so mo oo : Option Addr) (sc mc oc : Nat) (w : World) (hs : IS w (.slice so s.length sc) s) (hm : IS w (.slice mo m.length mc) m) (ho : IS w (.slice oo o.length oc) o) (h1 : s.length ≤ 60) (h2 : m.length ≤ 60) (hol : o.length ≤ 9223372036854775807) (hE : wiE s m col gap = 0) :
    Calls Try.prog 5 #[.slice so s.length sc, .slice mo m.length mc, .int .i64 col, .int .i64 gap, .slice oo o.length oc] w fun e w' => e = .returned (.bool true) ∧ Below w.heap.size w w' := by
  obtain ⟨_, _, _, hcol, hgap, hml, hcE⟩ := wiE_zero hE
  have HGr : Hid (Gri (clN col) gap (cel (clN col) s) m) := gri_of hE
  have HAl : Hid (∀ W, Calls Try.prog 7 #[] W fun e w' => e = .returned (.bool true) ∧ Below W.heap.size W w') := alive_grid
  have A1 : Hid (∀ W, Below w.heap.size w W → Calls Try.prog 9 #[.slice so s.length sc, .slice mo m.length mc, .int .i64 col, .int .i64 gap] W fun e w' => ∃ u, e = .returned (.tuple #[u, .int .i64 0]) ∧ Hid (OwI W.heap.size w' u (wsG (clN col) gap (cel (clN col) s) m) ∧ Below W.heap.size W w')) := fun W h => by
    have := Widths_any s m col gap _ _ W (hs.below h) (hm.below h)
    rw [hE] at this
    have e : wiL s m col gap = wsG (clN col) gap (cel (clN col) s) m := by unfold wiL; rw [if_pos hE]
    rwa [e] at this
  have A2 : Hid (∀ W, Below w.heap.size w W → Calls Try.prog 8 #[.slice so s.length sc, .int .i64 col] W fun e w' => ∃ u, e = .returned (.tuple #[u, .int .i64 0]) ∧ Hid (OwK 40 2 fP W.heap.size w' u (cel (clN col) s) ∧ Below W.heap.size W w')) := fun W h => by
    have := Cells_any s col _ W (hs.below h)
    rw [hcE] at this
    have e : ceL s col = cel (clN col) s := by unfold ceL; rw [if_pos hcE]
    rwa [e] at this
  have A3 : Hid (∀ x W, Calls Try.prog 21 #[.int .i64 x, .int .i64 col] W fun e w' => e = .returned (.int .i64 (wdN (clN col) x : Nat)) ∧ w' = W) := fun x W => wide_any x col W
  have HCk : Hid (∀ i (h : i < s.length) (h2 : i < (cel (clN col) s).length), (cel (clN col) s)[i].k = wdN (clN col) s[i]) := fun i h _ => cel_k s h
  have hnI := clN_int col
  have hn64 := (clN_bd hcol).2
  have hn0 := clN_pos col
  have HCl : Hid ((cel (clN col) s).length = s.length) := cel_len _ _
  have HWl : Hid ((wsG (clN col) gap (cel (clN col) s) m).length = clN col ∧ ∀ y ∈ wsG (clN col) gap (cel (clN col) s) m, 0 ≤ y ∧ y ≤ 20000) := ⟨wsG_len _ _ _ _, fun y hy => by have := (wsG_ok hE).2 y hy; omega⟩
  have HMn : Hid (max col 1 = ((clN col : Nat) : Int)) := hnI.symm
  have HV : Hid (IS w (.slice so s.length sc) s ∧ IS w (.slice mo m.length mc) m ∧ IS w (.slice oo o.length oc) o) := ⟨hs, hm, ho⟩
  have HML : Hid (m.length = s.length) := hml
  generalize clN col = n at *
  generalize cel n s = C at *
  generalize hWL : wsG n gap C m = WL at *
  have HRm : Hid (∀ i (h1 : i < C.length) (h2 : i < m.length), m[i] ≤ smL (WL.take (C[i].x + C[i].k)) - smL (WL.take C[i].x) + ((C[i].k : Int) - 1) * gap) := fun i h1 h2 => by rw [← hWL]; exact room_sum HGr.out h1 h2
  have HLe : Hid (∀ (O : List Int), O.length = n → (∀ x ∈ O, 0 ≤ x) → (∀ i (h1 : i < C.length) (h2 : i < m.length), m[i] ≤ smL (O.take (C[i].x + C[i].k)) - smL (O.take C[i].x) + ((C[i].k : Int) - 1) * gap) → ∀ j, j ≤ n → smL (WL.take j) ≤ smL (O.take j)) := fun O a b c j hj => by rw [← hWL]; exact grid_least HGr.out a b c hj
  clear hnI hE hcE hml hs hm ho hWL
  have i1 : ¬ (60 : Int) < s.length := by omega
  have i2 : ¬ (60 : Int) < m.length := by omega
  go_enter Try.func5, Try.ntmps5
  go_wp2_with fail
  refine (HAl.out _).mono ?_
  rintro e w1 ⟨rfl, hb⟩
  have F1 : Hid (Below w.heap.size w w1) := hb
  clear hb HAl
  go_wp2_with fail
  refine (A1.out _ F1.out).mono ?_
  rintro e w2 ⟨wv, rfl, H2⟩
  have F2 : Hid (Below w.heap.size w w2 ∧ IS w2 wv WL) := ⟨F1.out.trans (H2.out.2.mono F1.out.size), H2.out.1.is⟩
  clear A1 H2 F1
  obtain ⟨wo, wcp, e1, _, wg⟩ := id F2.out.2
  rw [HWl.out.1] at e1
  subst e1
  clear wg
  go_wp2_with fail
  refine (A2.out _ F2.out.1).mono ?_
  rintro e w3 ⟨cv, rfl, H3⟩
  have F3 : Hid (Below w.heap.size w w3 ∧ IS w3 (.slice wo n wcp) WL ∧ KS 2 fP w3 cv C) := ⟨F2.out.1.trans (H3.out.2.mono F2.out.1.size), F2.out.2.below H3.out.2, H3.out.1.ks encP⟩
  clear A2 H3 F2
  obtain ⟨co, ccp, e1, _, cg⟩ := id F3.out.2.2
  rw [HCl.out] at e1
  subst e1
  clear cg
  have hMn : max col 1 = ((n : Nat) : Int) := HMn.out
  obtain ⟨rm, Hrm⟩ : ∃ rm : Bool, Hid (rm = decide (n ≤ o.length)) := ⟨_, rfl⟩
  have hrm : decide (n ≤ o.length) = rm := Hrm.out.symm
  obtain ⟨i0, hi, hz0, hz1, hz2⟩ := info_parts info_int
  have HI : Hid (Try.prog.info? 3 = some i0 ∧ i0.zero = some (.int .i64 0) ∧ i0.size = 1 ∧ i0.bytes = 8) := ⟨hi, hz0, hz1, hz2⟩
  clear hi hz0 hz1 hz2
  go_upto_block 0 with fail
  clear hrm hMn
  go_cut [18, 19] (fun s18 s19 wx => ∃ OL : List Int, Hid ((rm = true → OL.length = n) ∧ (∀ x ∈ OL, 0 ≤ x ∧ x ≤ 20000) ∧ OL.length ≤ n ∧ OwI w3.heap.size wx s18 OL ∧ Below w3.heap.size w3 wx))
  case first =>
    go_wp2_with fail
    go_loopw [18, 19] (fun u i wr => ∃ (k : Nat) (OL : List Int), k ≤ n ∧ i = .int .i64 k ∧ Hid (OL.length = k ∧ (∀ x ∈ OL, 0 ≤ x ∧ x ≤ 20000) ∧ OwI w3.heap.size wr u OL ∧ Below w3.heap.size w3 wr)) (fun _ i _ => n - (intOf i).toNat)
    case atStart => exact ⟨0, [], Nat.zero_le _, rfl, rfl, fun x hx => by simp at hx, OwI.nil _ _, Below.refl _ _⟩
    case round =>
      obtain ⟨k, OL, hk, rfl, HK⟩ := hrel
      by_cases hlt : k < n
      · have ik : (k : Int) < n := by omega
        cases hc : rm
        · have HF : Hid ((rm = true → OL.length = n) ∧ (∀ x ∈ OL, 0 ≤ x ∧ x ≤ 20000) ∧ OL.length ≤ n ∧ OwI w3.heap.size wr u18 OL ∧ Below w3.heap.size w3 wr) := ⟨(fun h => by rw [hc] at h; cases h), HK.out.2.1, by rw [HK.out.1]; exact hk, HK.out.2.2.1, HK.out.2.2.2⟩
          subst hc
          clear HK
          go_wp2_with fail
          go_meet
          exact ⟨OL, HF⟩
        · have hno : n ≤ o.length := by have := Hrm.out; rw [hc] at this; have := of_decide_eq_true this.symm; omega
          subst hc
          obtain ⟨oo', oc', eo, _, og⟩ := HV.out.2.2.below F3.out.1
          injection eo with e1 _ e3
          subst e1 e3
          obtain ⟨ob, of', rfl, obl, oat⟩ := og (by omega)
          have x0 := (HK.out.2.2.2.cell (p := ⟨ob, of' + k, none⟩) obl).trans (oat k (by omega))
          have io : (k : Int) < (o.length : Int) := by omega
          have hown : wr.ownsRow w3.heap.size 3 1 u18 k (flatI OL) := by have h := HK.out.2.2.1; unfold OwI at h; rwa [HK.out.1] at h
          obtain ⟨ot, ct, e1, _, _⟩ := row_val hown
          subst e1
          have HA : Hid (∀ q, (wr.alloc q).ownsRow w3.heap.size 3 1 (.slice ot k ct) k (flatI OL) ∧ w3.heap.size ≤ (wr.alloc q).heap.size) := fun q => ⟨row_below hown ((Below.refl _ _).alloc (Nat.le_refl _) _), by have := HK.out.2.2.2.size; simp; omega⟩
          have HB : Hid (Below w3.heap.size w3 wr ∧ OL.length = k ∧ ∀ x ∈ OL, 0 ≤ x ∧ x ≤ 20000) := ⟨HK.out.2.2.2, HK.out.1, HK.out.2.1⟩
          have hc3 : Hid (k + 1 ≤ maxLen) := by unfold Hid maxLen; omega
          have hc4 : Hid ((k + 1) * 8 ≤ 140737488355328) := by unfold Hid; omega
          obtain ⟨hi, hz0, hz1, hz2⟩ := HI.out
          clear HK hown og oat
          generalize o[k]'(by omega) = ok at *
          obtain ⟨q, hq⟩ : ∃ q, ok.tmod 20001 = q := ⟨_, rfl⟩
          have hqb : -20000 ≤ q ∧ q ≤ 20000 := by
            have h1 := Int.tmod_lt_of_pos ok (b := 20001) (by omega)
            have h2 := Int.lt_tmod_of_pos ok (b := 20001) (by omega)
            omega
          have hwq : IntKind.i64.wrap (q + 20001) = q + 20001 := by rw [IntKind.wrap_i64]; omega
          obtain ⟨z, hz⟩ : ∃ z, (q + 20001).tmod 20001 = z := ⟨_, rfl⟩
          have hzb : 0 ≤ z ∧ z ≤ 20000 := by
            rw [← hz, Int.tmod_eq_emod_of_nonneg (by omega)]
            omega
          go_wp2_with (at_builtin; refine wpList_append_lies _ rfl _ _ 23 rfl w3.heap.size 3 i0 (.int .i64 0) 1 8 Try.underlying23 hi hz0 hz1 hz2 rfl (by decide) (.slice ot k ct) k (flatI OL) rfl (HA.out _).1 _ 1 1 [.int .i64 z] rfl rfl (cell_oneB _ _ _ _ rfl) (one1 _) (by decide) hc3.out hc4.out (HA.out _).2 _ rfl ?_)
          intro g4 cap4 w4 hown' hgrow _ hg4
          have H4 : Hid ((OL ++ [z]).length = k + 1 ∧ (∀ x ∈ OL ++ [z], 0 ≤ x ∧ x ≤ 20000) ∧ OwI w3.heap.size w4 (.slice (some ⟨g4, 0, none⟩) (k + 1) cap4) (OL ++ [z]) ∧ Below w3.heap.size w3 w4) := by
            have b1 : Below wr.heap.size wr (wr.alloc (.cells #[.int .i64 z] 3)) := (Below.refl _ _).alloc (Nat.le_refl _) _
            have e1 : (OL ++ [z]).length = k + 1 := by rw [List.length_append, HB.out.2.1]; rfl
            refine ⟨e1, fun x hx => ?_, ?_, app_below (HB.out.1.trans (b1.mono HB.out.1.size)) (HA.out _).1 (Nat.le_refl _) hgrow⟩
            · rcases List.mem_append.1 hx with hx | hx
              · exact HB.out.2.2 x hx
              · simp at hx; rw [hx]; exact hzb
            · unfold OwI
              rw [e1, flatI_app]
              exact hown'
          clear hown' hgrow HA HB hi hz0 hz1 hz2 hq hz
          go_wp2
          exact ⟨⟨k + 1, OL ++ [z], by omega, by go_num, H4⟩, by simp [intOf]; omega⟩
      · obtain rfl : k = n := by omega
        have ik : ¬ (k : Int) < k := by omega
        have HF : Hid ((rm = true → OL.length = k) ∧ (∀ x ∈ OL, 0 ≤ x ∧ x ≤ 20000) ∧ OL.length ≤ k ∧ OwI w3.heap.size wr u18 OL ∧ Below w3.heap.size w3 wr) := ⟨fun _ => HK.out.1, HK.out.2.1, by rw [HK.out.1]; exact Nat.le_refl _, HK.out.2.2.1, HK.out.2.2.2⟩
        clear HK
        go_wp2_with fail
        go_meet
        exact ⟨OL, HF⟩
  case rest =>
    obtain ⟨OL, HO⟩ := hcut
    obtain ⟨oo2, oc2, e18, _, _⟩ := row_val HO.out.2.2.2.1
    subst e18
    have F4 : Hid (Below w.heap.size w wc ∧ IS wc (.slice wo n wcp) WL ∧ KS 2 fP wc (.slice co s.length ccp) C ∧ IS wc (.slice oo2 OL.length oc2) OL ∧ IS wc (.slice so s.length sc) s ∧ IS wc (.slice mo m.length mc) m) := by
      have hb := HO.out.2.2.2.2
      have hbw := F3.out.1.trans (hb.mono F3.out.1.size)
      exact ⟨hbw, F3.out.2.1.below hb, F3.out.2.2.below hb, HO.out.2.2.2.1.is, HV.out.1.below hbw, HV.out.2.1.below hbw⟩
    have HOb : Hid ((rm = true → OL.length = n) ∧ (∀ x ∈ OL, 0 ≤ x ∧ x ≤ 20000) ∧ OL.length ≤ n) := ⟨HO.out.1, HO.out.2.1, HO.out.2.2.1⟩
    clear HO F3 HI HV
    obtain ⟨w5, hw5⟩ : ∃ w5, w5 = wc := ⟨_, rfl⟩
    rw [← hw5] at F4 ⊢
    clear hw5
    go_wp2_with fail
    go_loopw [17, 20, 21] (fun s17 i _ wr => ∃ (j : Nat) (rj : Bool), j ≤ s.length ∧ i = .int .i64 j ∧ s17 = .bool rj ∧ Hid ((rj = true → OL.length = n ∧ ∀ i (h1 : i < C.length) (h2 : i < m.length), i < j → m[i] ≤ smL (OL.take (C[i].x + C[i].k)) - smL (OL.take C[i].x) + ((C[i].k : Int) - 1) * gap) ∧ Below w5.heap.size w5 wr)) (fun _ i _ _ => s.length - (intOf i).toNat)
    case atStart => exact ⟨0, rm, Nat.zero_le _, rfl, rfl, fun h => ⟨HOb.out.1 h, fun i _ _ h => absurd h (Nat.not_lt_zero i)⟩, Below.refl _ _⟩
    case round =>
      obtain ⟨j, rj, hj, rfl, rfl, HJ⟩ := hrel
      by_cases hjt : j < s.length
      · have ij : (j : Int) < s.length := by omega
        have hb := HJ.out.2
        have hC : j < C.length := by rw [HCl.out]; exact hjt
        have hM : j < m.length := by rw [HML.out]; exact hjt
        have im : (j : Int) < m.length := by omega
        obtain ⟨so', sc', es, _, sg⟩ := F4.out.2.2.2.2.1
        injection es with e1 e2 e3
        clear e2
        subst e1 e3
        obtain ⟨sb, sf, rfl, sbl, sat⟩ := sg (by omega)
        obtain ⟨mo', mc', em, _, mg⟩ := F4.out.2.2.2.2.2
        injection em with e1 e2 e3
        clear e2
        subst e1 e3
        obtain ⟨mb, mf, rfl, mbl, mat⟩ := mg (by omega)
        obtain ⟨co', cc', ec, _, cg⟩ := F4.out.2.2.1
        injection ec with e1 e2 e3
        clear e2
        subst e1 e3
        obtain ⟨cb, cf, rfl, cbl, cat⟩ := cg (by omega)
        have x0 : Hid (w5.cell? ⟨sb, sf + j, none⟩ = some (.int .i64 s[j])) := sat j hjt
        have x1 : Hid (w5.cell? ⟨mb, mf + j, none⟩ = some (.int .i64 m[j])) := mat j hM
        have x2 : Hid (w5.cell? ⟨cb, cf + j * 2, none⟩ = some (.int .i64 (C[j].x : Nat))) := cat j hC 0 (by omega)
        have Lt : Hid (sb < w5.heap.size ∧ mb < w5.heap.size ∧ cb < w5.heap.size) := ⟨sbl, mbl, cbl⟩
        have hck := HCk.out j hjt hC
        have A3x := A3.out s[j] wr
        rw [← hck] at A3x
        have hcin := HGr.out.cel C[j] (List.getElem_mem hC)
        have hmj := HGr.out.ms m[j] (List.getElem_mem hM)
        have T1 : Hid (∀ W, Below w5.heap.size w5 W → Calls Try.prog 22 #[.slice wo n wcp, .int .i64 (C[j].x : Nat), .int .i64 (C[j].k : Nat), .int .i64 gap] W fun e w' => e = .returned (.int .i64 (smL (WL.take (C[j].x + C[j].k)) - smL (WL.take C[j].x) + ((C[j].k : Int) - 1) * gap)) ∧ Below W.heap.size W w') := fun W h => (together_any WL C[j].x C[j].k gap _ W (F4.out.2.1.below h) hcin.2 (by rw [HWl.out.1]; exact hcin.1) (by rw [HWl.out.1]; omega) HWl.out.2 hgap).mono fun e w' ⟨a, b⟩ => ⟨a, b ▸ Below.refl _ _⟩
        have T2 : Hid (rj = true → ∀ W, Below w5.heap.size w5 W → Calls Try.prog 22 #[.slice oo2 OL.length oc2, .int .i64 (C[j].x : Nat), .int .i64 (C[j].k : Nat), .int .i64 gap] W fun e w' => e = .returned (.int .i64 (smL (OL.take (C[j].x + C[j].k)) - smL (OL.take C[j].x) + ((C[j].k : Int) - 1) * gap)) ∧ Below W.heap.size W w') := fun hr W h => (together_any OL C[j].x C[j].k gap _ W (F4.out.2.2.2.1.below h) hcin.2 (by rw [(HJ.out.1 hr).1]; exact hcin.1) (by rw [(HJ.out.1 hr).1]; omega) HOb.out.2.1 hgap).mono fun e w' ⟨a, b⟩ => ⟨a, b ▸ Below.refl _ _⟩
        have hms := HRm.out j hC hM
        have HNx : Hid (rj = true → m[j] ≤ smL (OL.take (C[j].x + C[j].k)) - smL (OL.take C[j].x) + ((C[j].k : Int) - 1) * gap → OL.length = n ∧ ∀ i (h1 : i < C.length) (h2 : i < m.length), i < j + 1 → m[i] ≤ smL (OL.take (C[i].x + C[i].k)) - smL (OL.take C[i].x) + ((C[i].k : Int) - 1) * gap) := fun hr h => by
          refine ⟨(HJ.out.1 hr).1, fun i h1 h2 hi => ?_⟩
          by_cases e : i < j
          · exact (HJ.out.1 hr).2 i h1 h2 e
          · obtain rfl : i = j := by omega
            exact h
        have HB : Hid (Below w5.heap.size w5 wr) := hb
        clear HJ sg sat mg mat cg cat hck hb
        generalize smL (WL.take (C[j].x + C[j].k)) - smL (WL.take C[j].x) + ((C[j].k : Int) - 1) * gap = tw at *
        generalize smL (OL.take (C[j].x + C[j].k)) - smL (OL.take C[j].x) + ((C[j].k : Int) - 1) * gap = tq at *
        generalize C[j].x = cx at *
        generalize C[j].k = ck at *
        generalize s[j] = sj at *
        generalize m[j] = mj at *
        have y0 := (HB.out.cell (p := ⟨sb, sf + j, none⟩) Lt.out.1).trans x0.out
        go_wp2_with fail
        refine A3x.mono ?_
        rintro e w6 ⟨rfl, rfl⟩
        clear A3x y0
        go_upto_region 23 with fail
        have hw1 : IntKind.i64.wrap ((cx : Int) + (ck : Int)) = (cx : Int) + ck := by rw [IntKind.wrap_i64]; omega
        have d1 : decide ((cx : Int) < 0) = false := decide_eq_false (by omega)
        have d2 : decide ((n : Int) < (cx : Int) + (ck : Int)) = false := decide_eq_false (by omega)
        have d3 : decide (tw < mj) = false := decide_eq_false (by omega)
        refine R4.wp_region_lit 33 0 0 (fun _ _ => undef) (fun _ => .cells #[] 0) [] (by kernel_rfl) (by kernel_rfl) rfl (fun k hk => absurd hk (by omega)) rfl ?_
        apply Exists.intro
        refine ⟨fun bs ne => ?_, fun i h1 h2 => absurd h2 (by omega), ?_⟩
        · have bl : Hid (∀ u : Gb w6 bs, Below w5.heap.size w5 u.wd) := fun u => HB.out.trans (u.below.mono HB.out.size)
          have q1 := fun u : Gb w6 bs => ((bl.out u).cell (p := ⟨mb, mf + j, none⟩) Lt.out.2.1).trans x1.out
          have q2 := fun u : Gb w6 bs => ((bl.out u).cell (p := ⟨cb, cf + j * 2, none⟩) Lt.out.2.2).trans x2.out
          simp only [List.take_succ_cons, List.take_zero]
          repeat (go_big_quiet_step (first
            | (go_at_call 22; exact gb_call (T1.out _ (bl.out _)))))
          exact wpQuiet_nil rfl
        intro bl wx hbl _ _
        simp only [R4.layL]
        refine wpAny_done (by kernel_rfl) ?_ _
        have HB2 : Hid (Below w5.heap.size w5 wx) := HB.out.trans (hbl.mono HB.out.size)
        clear hbl HB d1 d2 d3 T1 hms
        go_upto_region 25 with fail
        cases rj
        · have HF : Hid ((false = true → OL.length = n ∧ ∀ i (h1 : i < C.length) (h2 : i < m.length), i < j + 1 → m[i] ≤ smL (OL.take (C[i].x + C[i].k)) - smL (OL.take C[i].x) + ((C[i].k : Int) - 1) * gap)) := fun h => by cases h
          clear HNx T2
          refine R4.wp_region_lit 17 0 1 (fun _ _ => undef) (fun _ => .cells #[] 0) [] (by kernel_rfl) (by kernel_rfl) rfl (fun k hk => absurd hk (by omega)) rfl ?_
          apply Exists.intro
          refine ⟨fun bs ne => ?_, fun i h1 h2 => absurd h2 (by omega), ?_⟩
          · simp only [List.take_succ_cons, List.take_zero]
            repeat (go_big_quiet_step (fail))
            exact wpQuiet_nil rfl
          intro bl wy hbl _ _
          simp only [R4.layL]
          have HB3 : Hid (Below w5.heap.size w5 wy) := HB2.out.trans (hbl.mono HB2.out.size)
          clear hbl HB2
          refine wpAny_one 17 (by kernel_rfl) rfl ?_
          intro K hK
          go_simp
          refine hK _ _ ?_
          clear hK K
          refine wpAny_done (by kernel_rfl) ?_ _
          go_wp2
          exact ⟨⟨j + 1, false, by omega, by go_num, rfl, HF.out, HB3.out⟩, by simp [intOf]; omega⟩
        · obtain ⟨rk, Hrk⟩ : ∃ rk : Bool, Hid (rk = decide (mj ≤ tq)) := ⟨_, rfl⟩
          have hrk : decide (mj ≤ tq) = rk := Hrk.out.symm
          have HF : Hid ((rk = true → OL.length = n ∧ ∀ i (h1 : i < C.length) (h2 : i < m.length), i < j + 1 → m[i] ≤ smL (OL.take (C[i].x + C[i].k)) - smL (OL.take C[i].x) + ((C[i].k : Int) - 1) * gap)) := fun h => HNx.out rfl (by rw [Hrk.out] at h; exact of_decide_eq_true h)
          have T2' : Hid (∀ W, Below w5.heap.size w5 W → Calls Try.prog 22 #[.slice oo2 OL.length oc2, .int .i64 (cx : Nat), .int .i64 (ck : Nat), .int .i64 gap] W fun e w' => e = .returned (.int .i64 tq) ∧ Below W.heap.size W w') := T2.out rfl
          clear HNx T2
          refine R4.wp_region_lit 17 0 1 (fun _ _ => undef) (fun _ => .cells #[] 0) [] (by kernel_rfl) (by kernel_rfl) rfl (fun k hk => absurd hk (by omega)) rfl ?_
          apply Exists.intro
          refine ⟨fun bs ne => ?_, fun i h1 h2 => absurd h2 (by omega), ?_⟩
          · have bl : Hid (∀ u : Gb wx bs, Below w5.heap.size w5 u.wd) := fun u => HB2.out.trans (u.below.mono HB2.out.size)
            have q1 := fun u : Gb wx bs => ((bl.out u).cell (p := ⟨mb, mf + j, none⟩) Lt.out.2.1).trans x1.out
            have q2 := fun u : Gb wx bs => ((bl.out u).cell (p := ⟨cb, cf + j * 2, none⟩) Lt.out.2.2).trans x2.out
            simp only [List.take_succ_cons, List.take_zero]
            repeat (go_big_quiet_step (first
              | (go_at_call 22; exact gb_call (T2'.out _ (bl.out _)))))
            exact wpQuiet_nil rfl
          intro bl wy hbl _ _
          simp only [R4.layL]
          have HB3 : Hid (Below w5.heap.size w5 wy) := HB2.out.trans (hbl.mono HB2.out.size)
          clear hbl HB2
          refine wpAny_one 17 (by kernel_rfl) rfl ?_
          intro K hK
          go_simp
          refine hK _ _ ?_
          clear hK K
          refine wpAny_done (by kernel_rfl) ?_ _
          clear hrk
          go_wp2
          exact ⟨⟨j + 1, rk, by omega, by go_num, rfl, HF.out, HB3.out⟩, by simp [intOf]; omega⟩
      · obtain rfl : j = s.length := by omega
        have HRj : Hid (rj = true → OL.length = n ∧ ∀ k, k ≤ n → smL (WL.take k) ≤ smL (OL.take k)) := fun h => by
          obtain ⟨a, b⟩ := HJ.out.1 h
          refine ⟨a, HLe.out OL a (fun x hx => (HOb.out.2.1 x hx).1) (fun i h1 h2 => b i h1 h2 (by rw [← HCl.out]; exact h1))⟩
        have HB : Hid (Below w5.heap.size w5 wr) := HJ.out.2
        obtain ⟨w6, hw6⟩ : ∃ w6, w6 = wr := ⟨_, rfl⟩
        rw [← hw6] at HB ⊢
        clear HJ hw6 HRm HLe HCk
        have ij : ¬ ((s.length : Nat) : Int) < s.length := by omega
        go_wp2_with fail
        clear ij
        go_loopw [22, 23, 24] (fun a c i wr => ∃ (k : Nat) (x y : Int), k ≤ n ∧ i = .int .i64 k ∧ a = .int .i64 x ∧ c = .int .i64 y ∧ Hid (x = smL (WL.take k) ∧ (rj = true → y = smL (OL.take k)) ∧ (rj = false → y = 0) ∧ Below w5.heap.size w5 wr)) (fun _ _ i _ => n - (intOf i).toNat)
        case atStart => exact ⟨0, 0, 0, Nat.zero_le _, rfl, rfl, rfl, by simp [smL], fun _ => by simp [smL], fun _ => rfl, HB.out⟩
        case round =>
          obtain ⟨k, x, y, hk, rfl, rfl, rfl, HK⟩ := hrel
          clear HB
          by_cases hlt : k < n
          · have ik : (k : Int) < n := by omega
            have hb := HK.out.2.2.2
            have hkW : k < WL.length := by rw [HWl.out.1]; exact hlt
            obtain ⟨wo', wc', ew, _, wg⟩ := F4.out.2.1
            injection ew with e1 e2 e3
            clear e2
            subst e1 e3
            obtain ⟨wb, wf, rfl, wbl, wat⟩ := wg (by omega)
            have x0 := (hb.cell (p := ⟨wb, wf + k, none⟩) wbl).trans (wat k hkW)
            have hwb := HWl.out.2 WL[k] (List.getElem_mem hkW)
            have hxs := smL_bd (l := WL.take k) (M := 20000) fun y hy => HWl.out.2 y (List.mem_of_mem_take hy)
            have hxb : 0 ≤ x ∧ x ≤ 1280000 := by
              rw [HK.out.1]
              have : ((WL.take k).length : Int) ≤ 64 := by simp; omega
              omega
            have HX : Hid (x + WL[k] = smL (WL.take (k + 1))) := by unfold Hid; rw [smL_take hkW, HK.out.1]
            clear wg wat hxs
            generalize WL[k] = wk at *
            have hw1 : IntKind.i64.wrap (x + wk) = x + wk := by rw [IntKind.wrap_i64]; omega
            have n0 : ¬ wk < 0 := by omega
            cases rj
            · have HF : Hid (x + wk = smL (WL.take (k + 1)) ∧ (false = true → y = smL (OL.take (k + 1))) ∧ (false = false → y = 0) ∧ Below w5.heap.size w5 wr) := ⟨HX.out, (fun h => by cases h), HK.out.2.2.1, hb⟩
              clear HK hb HX
              go_wp2
              exact ⟨⟨k + 1, x + wk, y, by omega, by go_num, rfl, rfl, HF.out.1, (fun h => by cases h), (fun _ => HF.out.2.2.1 rfl), HF.out.2.2.2⟩, by simp [intOf]; omega⟩
            · obtain ⟨hOl, hle⟩ := HRj.out rfl
              have hkO : k < OL.length := by rw [hOl]; exact hlt
              obtain ⟨oo', oc', eo, _, og⟩ := F4.out.2.2.2.1
              injection eo with e1 e2 e3
              clear e2
              subst e1 e3
              obtain ⟨ob, of', rfl, obl, oat⟩ := og (by omega)
              have x1 := (hb.cell (p := ⟨ob, of' + k, none⟩) obl).trans (oat k hkO)
              have iO : (k : Int) < (OL.length : Int) := by omega
              have hob := HOb.out.2.1 OL[k] (List.getElem_mem hkO)
              have hys := smL_bd (l := OL.take k) (M := 20000) fun y hy => HOb.out.2.1 y (List.mem_of_mem_take hy)
              have hyb : 0 ≤ y ∧ y ≤ 1280000 := by
                rw [HK.out.2.1 rfl]
                have : ((OL.take k).length : Int) ≤ 64 := by simp; omega
                omega
              have HY : Hid (y + OL[k] = smL (OL.take (k + 1))) := by unfold Hid; rw [smL_take hkO, HK.out.2.1 rfl]
              have hno : ¬ y + OL[k] < x + wk := by
                have := hle (k + 1) (by omega)
                rw [← HX.out, ← HY.out] at this
                omega
              have HOl : Hid (OL.length = n) := hOl
              clear og oat hys hOl hle
              generalize OL[k] = vk at *
              have hw2 : IntKind.i64.wrap (y + vk) = y + vk := by rw [IntKind.wrap_i64]; omega
              have HF : Hid (x + wk = smL (WL.take (k + 1)) ∧ (true = true → y + vk = smL (OL.take (k + 1))) ∧ (true = false → y + vk = 0) ∧ Below w5.heap.size w5 wr) := ⟨HX.out, fun _ => HY.out, (fun h => by cases h), hb⟩
              clear HK hb HX HY
              go_wp2
              exact ⟨⟨k + 1, x + wk, y + vk, by omega, by go_num, rfl, rfl, HF.out.1, (fun _ => HF.out.2.1 rfl), (fun h => by cases h), HF.out.2.2.2⟩, by simp [intOf]; omega⟩
          · obtain rfl : k = n := by omega
            have HF : Hid (Below w.heap.size w wr) := F4.out.1.trans (HK.out.2.2.2.mono F4.out.1.size)
            clear HK
            go_wp2
            go_ret
            exact ⟨rfl, HF.out⟩

set_option maxRecDepth 10000 in
set_option maxHeartbeats 8000000 in
theorem gleast_walk (s m o : List Int) (col gap : Int) (sv mv ov : Value) (w : World) (hs : IS w sv s) (hm : IS w mv m) (ho : IS w ov o) (hol : o.length ≤ 9223372036854775807) :
    Calls Try.prog 5 #[sv, mv, .int .i64 col, .int .i64 gap, ov] w fun e w' => e = .returned (.bool true) ∧ Below w.heap.size w w' := by
  have HAl : Hid (∀ W, Calls Try.prog 7 #[] W fun e w' => e = .returned (.bool true) ∧ Below W.heap.size W w') := alive_grid
  obtain ⟨so, sc, e1, _, _⟩ := id hs
  obtain ⟨mo, mc, e2, _, _⟩ := id hm
  obtain ⟨oo, oc, e3, _, _⟩ := id ho
  subst e1 e2 e3
  by_cases h1 : 60 < s.length
  · have i1 : (60 : Int) < s.length := by omega
    clear hs hm ho
    go_enter Try.func5, Try.ntmps5
    go_wp2_with fail
    refine (HAl.out _).mono ?_
    rintro e w1 ⟨rfl, hb⟩
    have HB : Hid (Below w.heap.size w w1) := hb
    clear hb
    go_wp2
    go_ret
    exact ⟨rfl, HB.out⟩
  by_cases h2 : 60 < m.length
  · have i1 : ¬ (60 : Int) < s.length := by omega
    have i2 : (60 : Int) < m.length := by omega
    clear hs hm ho
    go_enter Try.func5, Try.ntmps5
    go_wp2_with fail
    refine (HAl.out _).mono ?_
    rintro e w1 ⟨rfl, hb⟩
    have HB : Hid (Below w.heap.size w w1) := hb
    clear hb
    go_wp2
    go_ret
    exact ⟨rfl, HB.out⟩
  by_cases hE : wiE s m col gap = 0
  · exact gleast_ok s m o col gap so mo oo sc mc oc w hs hm ho (by omega) (by omega) hol hE
  · have i1 : ¬ (60 : Int) < s.length := by omega
    have i2 : ¬ (60 : Int) < m.length := by omega
    have A1 : Hid (∀ W, Below w.heap.size w W → Calls Try.prog 9 #[.slice so s.length sc, .slice mo m.length mc, .int .i64 col, .int .i64 gap] W fun e w' => ∃ u, e = .returned (.tuple #[u, .int .i64 (wiE s m col gap)]) ∧ Hid (OwI W.heap.size w' u [] ∧ Below W.heap.size W w')) := fun W h => by
      have := Widths_any s m col gap _ _ W (hs.below h) (hm.below h)
      have e : wiL s m col gap = [] := by unfold wiL; rw [if_neg hE]
      rwa [e] at this
    have A2 : Hid (∀ W, Below w.heap.size w W → Calls Try.prog 8 #[.slice so s.length sc, .int .i64 col] W fun e w' => ∃ u, e = .returned (.tuple #[u, .int .i64 (ceE s col)]) ∧ Hid (Below W.heap.size W w')) := fun W h => by
      refine (Cells_any s col _ W (hs.below h)).mono ?_
      rintro e w' ⟨u, rfl, H⟩
      exact ⟨u, rfl, H.out.2⟩
    have hne : (wiE s m col gap != 0) = true := by simpa using hE
    generalize wiE s m col gap = er at *
    generalize ceE s col = ec at *
    clear hs hm ho hE
    go_enter Try.func5, Try.ntmps5
    go_wp2_with fail
    refine (HAl.out _).mono ?_
    rintro e w1 ⟨rfl, hb⟩
    have F1 : Hid (Below w.heap.size w w1) := hb
    clear hb HAl
    go_wp2_with fail
    refine (A1.out _ F1.out).mono ?_
    rintro e w2 ⟨wv, rfl, H2⟩
    have F2 : Hid (Below w.heap.size w w2) := F1.out.trans (H2.out.2.mono F1.out.size)
    obtain ⟨wo, wcp, e1, _, _⟩ := H2.out.1.is
    subst e1
    clear A1 H2 F1
    go_wp2_with fail
    refine (A2.out _ F2.out).mono ?_
    rintro e w3 ⟨cv, rfl, H3⟩
    have F3 : Hid (Below w.heap.size w w3) := F2.out.trans (H3.out.mono F2.out.size)
    clear A2 H3 F2
    go_wp2
    go_ret
    exact ⟨rfl, F3.out⟩

end Go.Proofs.Ythnhcphkpffkfaa
