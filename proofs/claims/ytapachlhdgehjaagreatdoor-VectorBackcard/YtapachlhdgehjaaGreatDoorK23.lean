/-
  Texts of this claim, one behind the other: what each is about stands ahead of it.
-/
import Derived.Test.YtapachlhdgehjaaGreatDoorK22
import Derived.Test.YtapachlhdgehjaaGreatDoorK8
import Derived.Deep.CutBlock
/-
  Contracts of the document's answer for layer 13: the places of a Frame.
-/
namespace Go.Proofs.YtapachlhdgehjaaGreatDoor
open Go.RowKit

end Go.Proofs.YtapachlhdgehjaaGreatDoor

/-
  Contracts of the document's answer for layer 13: do places lie in a rectangle, has it one of them?
-/
namespace Go.Proofs.YtapachlhdgehjaaGreatDoor
open Go.RowKit

end Go.Proofs.YtapachlhdgehjaaGreatDoor

/-
  Contracts of the document's answer for layer 13: a list without idle pairs.
-/
namespace Go.Proofs.YtapachlhdgehjaaGreatDoor
open Go.RowKit

end Go.Proofs.YtapachlhdgehjaaGreatDoor

/-
  Contracts of the document's answer for layer 13: Norm.
-/
namespace Go.Proofs.YtapachlhdgehjaaGreatDoor
open Go.RowKit

theorem clp_ones : ∀ (l : List St) (n : Nat), clpE n l = 0 → ∀ s ∈ l, oneE s = 0
  | [], _, _, s, hs => by cases hs
  | x :: l, n, h, s, hs => by
    obtain ⟨h1, _, h3⟩ := clpE_cons h
    rcases List.mem_cons.1 hs with rfl | hs
    · exact h1
    · exact clp_ones l _ h3 s hs
def AnsS (w : World) (L : List St) (E : Int) (e : Ending) (w' : World) : Prop := ∃ u, e = .returned (.tuple #[u, .int .i64 E]) ∧ Hid (OwS w.heap.size w' u L ∧ Below w.heap.size w w')

end Go.Proofs.YtapachlhdgehjaaGreatDoor

/-
  Contracts of package list: Flat.
-/
namespace Go.Proofs.YtapachlhdgehjaaGreatDoor
open Go.RowKit

set_option maxRecDepth 20000 in
set_option maxHeartbeats 8000000 in
theorem lflat_any (l : List St) (v : Value) (w : World) (hv : LsS w v l) (ht : Txs l) (hxy : Xys l) :
    Calls Tryz.prog 27 #[v] w fun e w' => AnsF w l e w' := by
  have HC : Hid (Calls Tryz.prog 15 #[v] w fun e w' => e = .returned (.int .i64 (chkS l)) ∧ Below w.heap.size w w') := lcheck_any l v w hv ht hxy
  unfold AnsF
  by_cases h0 : chkS l = 0
  case neg =>
    have HE : Hid (fla1 l = [] ∧ fla2 l = []) := ⟨by unfold fla1; rw [if_neg h0], by unfold fla2; rw [if_neg h0]⟩
    have hne : (chkS l != 0) = true := by simp [h0]
    clear h0 hv ht hxy
    generalize chkS l = ce at *
    go_enter Tryz.func27, Tryz.ntmps27
    go_wp2_with fail
    refine HC.out.mono ?_
    rintro e w1 ⟨rfl, hb⟩
    have H1 : Hid (Below w.heap.size w w1) := hb
    clear hb
    go_wp2
    go_ret3
    refine ⟨_, _, rfl, ?_⟩
    rw [HE.out.1, HE.out.2]
    exact ⟨OwS.nil _ _, OwR.nil _ _, (fun g h => by cases h), H1.out⟩
  case pos =>
    obtain ⟨hl, hcl⟩ := chkS_zero h0
    have HE : Hid (fla1 l = (flaL l).map Prod.fst ∧ fla2 l = (flaL l).map Prod.snd) := ⟨by unfold fla1; rw [if_pos h0], by unfold fla2; rw [if_pos h0]⟩
    have HSh : Hid (∀ W, Below w.heap.size w W → Calls Tryz.prog 55 #[v] W fun e w' => ∃ u, e = .returned u ∧ OwR W.heap.size w' u ((ann [] l).map Prod.snd) ∧ Below W.heap.size W w') := fun W h => shown_any l v W (hv.below h) hl hcl
    rw [h0] at HC ⊢
    clear h0
    obtain ⟨oa, cap, rfl, hc, hg⟩ := hv
    have HG : Hid (0 < l.length → ∃ g o, oa = some ⟨g, o, none⟩ ∧ g < w.heap.size ∧ ∀ i (h : i < l.length), StAt w g (o + i * 15) l[i]) := hg
    obtain ⟨i0, hi, hz0, hz1, hz2⟩ := info_parts info_rcN
    obtain ⟨j0, ki, kz0, kz1, kz2⟩ := info_parts info_strokeZ
    clear hg ht hxy
    go_enter Tryz.func27, Tryz.ntmps27
    go_wp2_with fail
    refine HC.out.mono ?_
    rintro e w1 ⟨rfl, hb1⟩
    have H1 : Hid (Below w.heap.size w w1) := hb1
    clear hb1
    go_wp2_with fail
    refine (HSh.out _ H1.out).mono ?_
    rintro e w2 ⟨us, rfl, hus, hb2⟩
    have H2 : Hid (OwR w1.heap.size w2 us ((ann [] l).map Prod.snd) ∧ Below w.heap.size w w2) := ⟨hus, H1.out.trans (hb2.mono H1.out.size)⟩
    clear hus hb2
    obtain ⟨os, cp, es, hcp, hgs⟩ := row_val H2.out.1
    subst es
    have hAl : ((ann [] l).map Prod.snd).length = l.length := by rw [List.length_map, ann_len]
    rw [hAl] at hcp ⊢
    have HUS : Hid (0 < l.length → ∃ g, os = some ⟨g, 0, none⟩ ∧ g < w2.heap.size ∧ ∀ i p, (ann [] l)[i]? = some p → RcAt w2 g (i * 4) p.2) := fun h => by
      obtain ⟨g, e1, _, hlt⟩ := hgs (by omega)
      refine ⟨g, e1, hlt, fun i p hp => ?_⟩
      obtain ⟨oa', cap', e2, _, hg'⟩ := lsr_own H2.out.1
      obtain ⟨g', o', e3, _, hat⟩ := hg' (by omega)
      injection e2 with e2 _ _
      rw [e1] at e2
      rw [e3] at e2
      injection e2 with e2
      injection e2 with e4 e5 _
      subst e4 e5
      obtain ⟨hi, he⟩ := List.getElem?_eq_some_iff.1 hp
      have := hat i (by rw [List.length_map]; exact hi)
      rw [Nat.zero_add, List.getElem_map, he] at this
      exact this
    have HN : Hid (∀ k (h : k < l.length), ∃ p, (ann [] l)[k]? = some p ∧ p.1 = l[k] ∧ (ann [] l).take (k + 1) = (ann [] l).take k ++ [p]) := fun k h => by
      have h' : k < (ann [] l).length := by rw [ann_len]; exact h
      refine ⟨(ann [] l)[k], List.getElem?_eq_getElem h', ?_, (List.take_append_getElem h').symm⟩
      have := congrArg (fun L : List St => L[k]?) (ann_fst l [])
      simp only [List.getElem?_map, List.getElem?_eq_getElem h', List.getElem?_eq_getElem h, Option.map_some, Option.some.injEq] at this
      exact this
    have HLen : Hid ((ann [] l).length = l.length) := ann_len l []
    have HF : Hid (flaL l = (ann [] l).filter fun p => drw p.1) := rfl
    have HDr : Hid (∀ s ∈ l, ∀ W, Calls Tryz.prog 56 #[(Value.agg #[.int .u8 s.k, .int .i64 s.r.x, .int .i64 s.r.y, .int .i64 s.r.w, .int .i64 s.r.h, .int .u8 s.c.r, .int .u8 s.c.g, .int .u8 s.c.b, .int .u8 s.c.a, .int .u8 s.b.r, .int .u8 s.b.g, .int .u8 s.b.b, .int .u8 s.b.a, .string s.t, .int .i64 s.n])] W fun e w' => e = .returned (.bool (drw s)) ∧ Below W.heap.size W w') := fun s hs W => draws_any s W (kd_one (clp_ones l 0 hcl s hs))
    obtain ⟨B, hB⟩ : ∃ B, B = w2.heap.size := ⟨_, rfl⟩
    have HB : Hid (B = w2.heap.size) := hB
    have H0 : Hid (FlW B w2 (ann [] l) 0 (.slice none 0 0) (.slice none 0 0) w2) := ⟨OwS.nil _ _, OwR.nil _ _, (fun g h => by cases h), by rw [hB]; exact Below.refl _ _⟩
    clear hgs HC HSh hB hcl
    generalize ann [] l = A at *
    go_wp2_with fail
    go_loopw [6, 7, 18] (fun u q i wr => ∃ k : Nat, i = .int .i64 k ∧ k ≤ l.length ∧ Hid (FlW B w2 A k u q wr)) (fun _ _ i _ => l.length - (intOf i).toNat)
    case atStart => exact ⟨0, rfl, Nat.zero_le _, H0⟩
    case round =>
      clear H0
      obtain ⟨k, rfl, hk, HK⟩ := hrel
      by_cases hlt : k < l.length
      · have ik : (k : Int) < l.length := by omega
        obtain ⟨g, o, rfl, hg, hat⟩ := HG.out (by omega)
        obtain ⟨g1, rfl, hg1, hat1⟩ := HUS.out (by omega)
        obtain ⟨p, hp1, hp2, hp3⟩ := HN.out k hlt
        have hsz : B ≤ wr.heap.size := by have := HK.out.b.size; rw [HB.out]; exact this
        have hBw : Hid (Below w.heap.size w wr) := by
          have := HK.out.b
          rw [HB.out] at this
          exact H2.out.2.trans (this.mono H2.out.2.size)
        have hgB : g1 < B := by rw [HB.out]; exact hg1
        have hx := (hat k hlt).kept (w' := wr) fun j => hBw.out.cell (p := ⟨g, j, none⟩) hg
        have HX2 : Hid (∀ W, Below w.heap.size w W → StAt W g (o + k * 15) p.1) := fun W h => by rw [hp2]; exact (hat k hlt).kept fun j => h.cell (p := ⟨g, j, none⟩) hg
        have HY2 : Hid (∀ W, Below B w2 W → RcAt W g1 (k * 4) p.2) := fun W h => (hat1 k p hp1).kept fun j => h.cell (p := ⟨g1, j, none⟩) hgB
        have HP : Hid (A.take (k + 1) = A.take k ++ [p]) := hp3
        rw [← hp2] at hx
        have HDk : Hid (∀ W, Calls Tryz.prog 56 #[(Value.agg #[.int .u8 p.1.k, .int .i64 p.1.r.x, .int .i64 p.1.r.y, .int .i64 p.1.r.w, .int .i64 p.1.r.h, .int .u8 p.1.c.r, .int .u8 p.1.c.g, .int .u8 p.1.c.b, .int .u8 p.1.c.a, .int .u8 p.1.b.r, .int .u8 p.1.b.g, .int .u8 p.1.b.b, .int .u8 p.1.b.a, .string p.1.t, .int .i64 p.1.n])] W fun e w' => e = .returned (.bool (drw p.1)) ∧ Below W.heap.size W w') := by rw [hp2]; exact fun W => HDr.out _ (List.getElem_mem hlt) W
        obtain ⟨v0, v1, v2, v3⟩ := HY2.out wr HK.out.b
        obtain ⟨bx, hbx⟩ : ∃ bx, bx = wr.heap.size := ⟨_, rfl⟩
        have HBX : Hid (∀ W, Below (wr.alloc (.cells #[.int .i64 p.2.x, .int .i64 p.2.y, .int .i64 p.2.w, .int .i64 p.2.h] 52)).heap.size (wr.alloc (.cells #[.int .i64 p.2.x, .int .i64 p.2.y, .int .i64 p.2.w, .int .i64 p.2.h] 52)) W → Below wr.heap.size wr W ∧ Bk W bx #[.int .i64 p.2.x, .int .i64 p.2.y, .int .i64 p.2.w, .int .i64 p.2.h] 52) := fun W h => by
          have h2 : Below wr.heap.size wr (wr.alloc (.cells #[.int .i64 p.2.x, .int .i64 p.2.y, .int .i64 p.2.w, .int .i64 p.2.h] 52)) := (Below.refl _ _).alloc (Nat.le_refl _) _
          refine ⟨h2.trans (h.mono h2.size), ?_⟩
          rw [hbx]
          exact (Bk.new wr _ _).below h
        have HBU : Hid (∀ g, (u6 : Value).ownBlock = some g → g ≠ bx) := fun g h => by
          have := (row_lt HK.out.s g h).2
          omega
        have HBE : Hid (bx = wr.heap.size) := hbx
        have hgw : g < wr.heap.size := Nat.lt_of_lt_of_le hg hBw.out.size
        clear hat hat1 hp1 hp2 hp3 HUS HN HG hbx
        obtain ⟨x0, x1, x2, x3, x4, x5, x6, x7, x8, x9, x10, x11, x12, x13, x14⟩ := hx
        have hlf : Hid (((A.take k).filter fun p => drw p.1).length ≤ k) := Nat.le_trans (List.length_filter_le _ _) (by rw [List.length_take]; omega)
        go_wp2_with fail
        rw [← HBE.out]
        refine (HDk.out _).mono ?_
        rintro e w3 ⟨rfl, hb3⟩
        obtain ⟨hb3, hbk3⟩ := HBX.out _ hb3
        have HBK : Hid (Bk w3 bx #[.int .i64 p.2.x, .int .i64 p.2.y, .int .i64 p.2.w, .int .i64 p.2.h] 52) := hbk3
        clear hbk3 v0 v1 v2 v3
        have H3 : Hid (FlW B w2 A k u6 u7 w3 ∧ Below w.heap.size w w3) := ⟨HK.out.below hsz hb3, hBw.out.trans (hb3.mono hBw.out.size)⟩
        have hsz3 : Hid (B ≤ w3.heap.size) := Nat.le_trans hsz hb3.size
        clear hb3 HK hsz HBX x0 x1 x2 x3 x4 x5 x6 x7 x8 x9 x10 x11 x12 x13 x14
        cases hd : drw p.1 with
        | false =>
          have HRel : Hid (FlW B w2 A (k + 1) u6 u7 w3) := by
            obtain ⟨a1, a2, a3, a4⟩ := H3.out.1
            have e : (A.take (k + 1)).filter (fun p => drw p.1) = (A.take k).filter fun p => drw p.1 := by rw [HP.out, List.filter_append]; simp [hd]
            refine ⟨by rw [e]; exact a1, by rw [e]; exact a2, a3, a4⟩
          clear H3 HP HBK
          go_wp2
          go_roundw
          case rel => exact ⟨k + 1, by go_num, by omega, HRel⟩
          case measure => simp [intOf]; omega
        | true =>
          have HFi : Hid ((A.take (k + 1)).filter (fun p => drw p.1) = ((A.take k).filter fun p => drw p.1) ++ [p]) := by unfold Hid; rw [HP.out, List.filter_append]; simp [hd]
          obtain ⟨x0, x1, x2, x3, x4, x5, x6, x7, x8, x9, x10, x11, x12, x13, x14⟩ := HX2.out _ H3.out.2
          obtain ⟨F, hF⟩ : ∃ F, F = (A.take k).filter fun p => drw p.1 := ⟨_, rfl⟩
          obtain ⟨m, hm⟩ : ∃ m, m = F.length := ⟨_, rfl⟩
          have HFm : Hid (F = ((A.take k).filter fun p => drw p.1) ∧ m = F.length) := ⟨hF, hm⟩
          have hmk : m ≤ k := by rw [hm, hF]; exact hlf.out
          have HS3 : Hid (OwS B w3 u6 (F.map Prod.fst) ∧ OwR B w3 u7 (F.map Prod.snd) ∧ Apt u6 u7 ∧ Below B w2 w3) := by rw [hF]; exact ⟨H3.out.1.s, H3.out.1.r, H3.out.1.a, H3.out.1.b⟩
          rw [← hF] at HFi
          clear hF hm
          have HA : Hid (∀ o, (w3.alloc o).ownsRow B 55 15 u6 m (flatZ (F.map Prod.fst)) ∧ B ≤ (w3.alloc o).heap.size) := fun o => by
            have h := HS3.out.1
            unfold OwS at h
            rw [List.length_map, ← HFm.out.2] at h
            exact ⟨row_below h ((Below.refl _ _).alloc (Nat.le_refl _) _), by have := hsz3.out; simp; omega⟩
          have hc3 : Hid (m + 1 ≤ maxLen) := by unfold Hid maxLen; omega
          have hc4 : Hid ((m + 1) * 72 ≤ 140737488355328) := by unfold Hid; omega
          have hc5 : Hid ((m + 1) * 32 ≤ 140737488355328) := by unfold Hid; omega
          obtain ⟨x, hxx⟩ : ∃ x, x = p.1 := ⟨_, rfl⟩
          have HXX : Hid (x = p.1) := hxx
          rw [← hxx] at x0 x1 x2 x3 x4 x5 x6 x7 x8 x9 x10 x11 x12 x13 x14
          clear hxx hd
          go_wp2_with (at_builtin; refine wpList_append_lies _ rfl _ _ 27 rfl B 55 j0 (.agg #[.int .u8 0, .int .i64 0, .int .i64 0, .int .i64 0, .int .i64 0, .int .u8 0, .int .u8 0, .int .u8 0, .int .u8 0, .int .u8 0, .int .u8 0, .int .u8 0, .int .u8 0, .string ByteArray.empty, .int .i64 0]) 15 72 Tryz.underlying27 ki kz0 kz1 kz2 rfl (by decide) u6 m (flatZ (F.map Prod.fst)) rfl (HA.out _).1 _ 1 1 (sCel x) rfl rfl (cell_strokeB _ _ _ _ rfl) (oneZ x) (by decide) hc3.out hc4.out (HA.out _).2 _ rfl ?_)
          intro g4 cap4 w4 hown' hgrow hlies hg4
          have H4 : Hid (OwS B w4 (.slice (some ⟨g4, 0, none⟩) (m + 1) cap4) ((F ++ [p]).map Prod.fst) ∧ OwR B w4 u7 (F.map Prod.snd) ∧ Apt (.slice (some ⟨g4, 0, none⟩) (m + 1) cap4) u7 ∧ Below B w2 w4 ∧ B ≤ w4.heap.size ∧ Bk w4 bx #[.int .i64 p.2.x, .int .i64 p.2.y, .int .i64 p.2.w, .int .i64 p.2.h] 52) := by
            obtain ⟨a1, a2, a3, a4⟩ := HS3.out
            obtain ⟨b1, b2⟩ := grow_row (n := m + 1) (cap4 := cap4) a2 a3 hgrow hlies
            have b3 : Below B w2 (w3.alloc (.cells (#[.int .u8 x.k, .int .i64 x.r.x, .int .i64 x.r.y, .int .i64 x.r.w, .int .i64 x.r.h, .int .u8 x.c.r, .int .u8 x.c.g, .int .u8 x.c.b, .int .u8 x.c.a, .int .u8 x.b.r, .int .u8 x.b.g, .int .u8 x.b.b, .int .u8 x.b.a, .string x.t, .int .i64 x.n]) 55)) := a4.alloc hsz3.out _
            have b4 : Below B w2 w4 := b3.grown hgrow (HA.out _).2 (fun g hg => (row_lt (HA.out (.cells (#[.int .u8 x.k, .int .i64 x.r.x, .int .i64 x.r.y, .int .i64 x.r.w, .int .i64 x.r.h, .int .u8 x.c.r, .int .u8 x.c.g, .int .u8 x.c.b, .int .u8 x.c.a, .int .u8 x.b.r, .int .u8 x.b.g, .int .u8 x.b.b, .int .u8 x.b.a, .string x.t, .int .i64 x.n]) 55)).1 g hg).1)
            refine ⟨?_, b1, b2, b4, ?_, Bk.grown (HBK.out.below ((Below.refl _ _).alloc (Nat.le_refl _) _)) hgrow (fun h => HBU.out _ h rfl)⟩
            · rw [List.map_append, List.map_singleton, ← HXX.out]
              exact snocS (by rw [List.length_map]; exact HFm.out.2) hown'
            · have := hgrow.size
              have := hsz3.out
              simp at *
              omega
          clear hown' hgrow hlies hg4 HA HS3 H3 x0 x1 x2 x3 x4 x5 x6 x7 x8 x9 x10 x11 x12 x13 x14
          obtain ⟨r, hrr⟩ : ∃ r, r = p.2 := ⟨_, rfl⟩
          have HRR : Hid (r = p.2) := hrr
          obtain ⟨y0, y1, y2, y3⟩ := H4.out.2.2.2.2.2.at4
          rw [← hrr] at y0 y1 y2 y3
          clear hrr
          have HA2 : Hid (∀ o, (w4.alloc o).ownsRow B 52 4 u7 m (flat (F.map Prod.snd)) ∧ B ≤ (w4.alloc o).heap.size) := fun o => by
            have h := H4.out.2.1
            unfold OwR at h
            rw [List.length_map, ← HFm.out.2] at h
            exact ⟨row_below h ((Below.refl _ _).alloc (Nat.le_refl _) _), by have := H4.out.2.2.2.2.1; simp; omega⟩
          go_wp2_with (at_builtin; refine wpList_append_lies _ rfl _ _ 67 rfl B 52 i0 (.agg #[.int .i64 0, .int .i64 0, .int .i64 0, .int .i64 0]) 4 32 Tryz.underlying67 hi hz0 hz1 hz2 rfl (by decide) u7 m (flat (F.map Prod.snd)) rfl (HA2.out _).1 _ 1 1 [.int .i64 r.x, .int .i64 r.y, .int .i64 r.w, .int .i64 r.h] rfl rfl (cell_fourB _ _ _ _ _ _ _ rfl) (one4 r) (by decide) hc3.out hc5.out (HA2.out _).2 _ rfl ?_)
          intro g6 cap6 w6 hown' hgrow hlies hg6
          have HRel : Hid (FlW B w2 A (k + 1) (.slice (some ⟨g4, 0, none⟩) (m + 1) cap4) (.slice (some ⟨g6, 0, none⟩) (m + 1) cap6) w6) := by
            obtain ⟨a1, a2, a3, a4, a5, -⟩ := H4.out
            obtain ⟨b1, b2⟩ := grow_row (n := m + 1) (cap4 := cap6) a1 a3.turn hgrow hlies
            have b3 : Below B w2 (w4.alloc (.cells #[.int .i64 r.x, .int .i64 r.y, .int .i64 r.w, .int .i64 r.h] 52)) := a4.alloc a5 _
            have b4 : Below B w2 w6 := b3.grown hgrow (HA2.out _).2 (fun g hg => (row_lt (HA2.out (.cells #[.int .i64 r.x, .int .i64 r.y, .int .i64 r.w, .int .i64 r.h] 52)).1 g hg).1)
            refine ⟨by rw [HFi.out]; exact b1, ?_, b2.turn, b4⟩
            rw [HFi.out, List.map_append, List.map_singleton, ← HRR.out]
            exact snocR (by rw [List.length_map]; exact HFm.out.2) hown'
          clear hown' hgrow hlies hg6 HA2 H4 y0 y1 y2 y3
          go_wp2
          go_roundw
          case rel => exact ⟨k + 1, by go_num, by omega, HRel⟩
          case measure => simp [intOf]; omega
      · obtain rfl : k = l.length := by omega
        have HFin : Hid (OwS w.heap.size wr u6 (fla1 l) ∧ OwR w.heap.size wr u7 (fla2 l) ∧ Apt u6 u7 ∧ Below w.heap.size w wr) := by
          obtain ⟨a1, a2, a3, a4⟩ := HK.out
          have hle : w.heap.size ≤ B := by rw [HB.out]; exact H2.out.2.size
          rw [← HLen.out, List.take_length, ← HF.out] at a1 a2
          rw [HE.out.1, HE.out.2]
          rw [HB.out] at a4
          exact ⟨a1.weaken hle, a2.weaken hle, a3, H2.out.2.trans (a4.mono H2.out.2.size)⟩
        clear HK HUS HN HDr
        go_wp2
        go_ret3
        exact ⟨_, _, rfl, HFin⟩

end Go.Proofs.YtapachlhdgehjaaGreatDoor
