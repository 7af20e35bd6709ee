/-
  Texts of this claim, one behind the other: what each is about stands ahead of it.
-/
import Derived.Test.YtbghjmkgicdnoaaK33
import Derived.RangeFuncNested
import Derived.RangeFuncBound
import Derived.RangeFuncCalls
import Derived.RangeFuncLeaves
import Derived.RangeFuncBox
import Derived.Laws.Rows
import Derived.Lib.OthersKept
/-
  Contracts of package list: Norm, over what visible tells.
-/
namespace Go.Proofs.Ytbghjmkgicdnoaa
open Go.RowKit

/-- A slice that holds truth values. -/
def LsB (w : World) (v : Value) (bs : List Bool) : Prop := ∃ g cap, v = .slice (some ⟨g, 0, none⟩) bs.length cap ∧ bs.length ≤ cap ∧ g < w.heap.size ∧ ∀ (i : Nat) (b : Bool), bs[i]? = some b → w.cell? ⟨g, i, none⟩ = some (.bool b)
/-- What is asked of visible. -/
def LVis : Prop := ∀ (l : List St) (v va : Value) (w : World), LsS w v l → RowsR w va ((ann [] l).map fun p => plc p.1 p.2) → l.length ≤ 16384 → clpE 0 l = 0 → Calls Try.prog 39 #[v, va] w fun e w' => ∃ u, e = .returned u ∧ Hid (LsB w' u (visB (ann [] l)) ∧ Below w.heap.size w w')

/-- What Norm keeps of the strokes done. -/
def kepT (A : List (St × Rc)) (vb : List Bool) (k : Nat) : List St := ((((A.zip vb).take k).filter fun x => kepB x.1 x.2).map Prod.fst).map Prod.fst
theorem kepT_len (A : List (St × Rc)) (vb : List Bool) (k : Nat) : (kepT A vb k).length ≤ k := by
  unfold kepT
  rw [List.length_map, List.length_map]
  refine Nat.le_trans (List.length_filter_le _ _) ?_
  rw [List.length_take]
  omega
theorem kepT_next {A : List (St × Rc)} {vb : List Bool} {k : Nat} {p : St × Rc} {b : Bool} (h1 : A[k]? = some p) (h2 : vb[k]? = some b) : kepT A vb (k + 1) = kepT A vb k ++ if kepB p b = true then [p.1] else [] := by
  have h : (A.zip vb)[k]? = some (p, b) := by rw [List.getElem?_zip_eq_some]; exact ⟨h1, h2⟩
  obtain ⟨hk, he⟩ := List.getElem?_eq_some_iff.1 h
  unfold kepT
  rw [← List.take_append_getElem hk, he, List.filter_append, List.map_append, List.map_append]
  congr 1
  cases hb : kepB p b <;> simp [hb]
theorem kepT_all (l : List St) : busy (kepT (ann [] l) (visB (ann [] l)) (ann [] l).length) = norL l := by
  unfold norL kepT
  rw [vis_kep, List.take_of_length_le (by rw [List.length_zip, visB_len]; omega)]

set_option maxRecDepth 20000 in
set_option maxHeartbeats 8000000 in
theorem lnorm_any (HVis : LVis) (l : List St) (v : Value) (w : World) (hv : LsS w v l) (ht : Txs l) (hxy : Xys l) (hca : ∀ s ∈ l, 0 ≤ s.c.a) :
    Calls Try.prog 15 #[v] w fun e w' => AnsS w (norE l) (chkS l) e w' := by
  have HC : Hid (Calls Try.prog 10 #[v] w fun e w' => e = .returned (.int .i64 (chkS l)) ∧ Below w.heap.size w w') := lcheck_any l v w hv ht hxy
  unfold AnsS
  by_cases h0 : chkS l = 0
  case neg =>
    have HE : Hid (norE l = []) := by unfold Hid norE; rw [if_neg h0]
    have hne : (chkS l != 0) = true := by simp [h0]
    clear h0 hv ht hxy hca HVis
    generalize chkS l = ce at *
    go_enter Try.func15, Try.ntmps15
    go_wp2_with fail
    refine HC.out.mono ?_
    rintro e w1 ⟨rfl, hb⟩
    have H1 : Hid (Below w.heap.size w w1) := hb
    clear hb
    go_wp2
    go_ret2
    refine ⟨_, rfl, ?_⟩
    rw [HE.out]
    exact ⟨OwS.nil _ _, H1.out⟩
  case pos =>
    obtain ⟨hl, hcl⟩ := chkS_zero h0
    have HE : Hid (norE l = norL l) := by unfold Hid norE; rw [if_pos h0]
    have HPi : Hid (∀ W, Below w.heap.size w W → Calls Try.prog 38 #[v] W fun e w' => ∃ u, e = .returned u ∧ Hid (RowsR w' u ((ann [] l).map fun p => plc p.1 p.2) ∧ Below W.heap.size W w')) := fun W h => lpieces_any l v W (hv.below h) hl hcl hca
    have HVi : Hid (∀ W va, Below w.heap.size w W → RowsR W va ((ann [] l).map fun p => plc p.1 p.2) → Calls Try.prog 39 #[v, va] W fun e w' => ∃ u, e = .returned u ∧ Hid (LsB w' u (visB (ann [] l)) ∧ Below W.heap.size W w')) := fun W va h hr => HVis l v va W (hv.below h) hr hl hcl
    rw [h0] at HC ⊢
    clear h0 HVis
    obtain ⟨oa, cap, rfl, hc, hg⟩ := hv
    have HG : Hid (0 < l.length → ∃ g o, oa = some ⟨g, o, none⟩ ∧ g < w.heap.size ∧ ∀ i (h : i < l.length), StAt w g (o + i * 15) l[i]) := hg
    obtain ⟨j0, ki, kz0, kz1, kz2⟩ := info_parts info_strokeZ
    clear hg ht hxy hca
    go_enter Try.func15, Try.ntmps15
    go_wp2_with fail
    refine HC.out.mono ?_
    rintro e w1 ⟨rfl, hb1⟩
    have H1 : Hid (Below w.heap.size w w1) := hb1
    clear hb1
    go_wp2_with fail
    refine (HPi.out _ H1.out).mono ?_
    rintro e wp ⟨va, rfl, HPp⟩
    have HP1 : Hid (Below w.heap.size w wp) := H1.out.trans (HPp.out.2.mono H1.out.size)
    go_wp2_with fail
    refine (HVi.out _ _ HP1.out HPp.out.1).mono ?_
    rintro e w2 ⟨us, rfl, HV2⟩
    have H2 : Hid (Below w.heap.size w w2) := HP1.out.trans (HV2.out.2.mono HP1.out.size)
    obtain ⟨g1, c1, e1, hc1, hg1, hat1⟩ := HV2.out.1
    subst e1
    have hvl : (visB (ann [] l)).length = l.length := by rw [visB_len, ann_len]
    rw [hvl] at hc1 ⊢
    have HUS : Hid (∀ k (h : k < l.length), ∃ p b, (ann [] l)[k]? = some p ∧ (visB (ann [] l))[k]? = some b ∧ p.1 = l[k] ∧ ∀ W, Below w2.heap.size w2 W → W.cell? ⟨g1, k, none⟩ = some (.bool b)) := fun k h => by
      have h' : k < (ann [] l).length := by rw [ann_len]; exact h
      have h'' : k < (visB (ann [] l)).length := by rw [hvl]; exact h
      refine ⟨(ann [] l)[k], (visB (ann [] l))[k], List.getElem?_eq_getElem h', List.getElem?_eq_getElem h'', ?_, fun W hW => (hW.cell (p := ⟨g1, k, none⟩) hg1).trans (hat1 k _ (List.getElem?_eq_getElem h''))⟩
      have := congrArg (fun L : List St => L[k]?) (ann_fst l [])
      simp only [List.getElem?_map, List.getElem?_eq_getElem h', List.getElem?_eq_getElem h, Option.map_some, Option.some.injEq] at this
      exact this
    have HDr : Hid (∀ s ∈ l, ∀ W, Calls Try.prog 40 #[(Value.agg #[.int .u8 s.k, .int .i64 s.r.x, .int .i64 s.r.y, .int .i64 s.r.w, .int .i64 s.r.h, .int .u8 s.c.r, .int .u8 s.c.g, .int .u8 s.c.b, .int .u8 s.c.a, .int .u8 s.b.r, .int .u8 s.b.g, .int .u8 s.b.b, .int .u8 s.b.a, .string s.t, .int .i64 s.n])] W fun e w' => e = .returned (.bool (drw s)) ∧ Below W.heap.size W w') := fun s hs W => draws_any s W (kd_one (clp_ones l 0 hcl s hs))
    have HFn : Hid (busy (kepT (ann [] l) (visB (ann [] l)) l.length) = norE l) := by
      unfold Hid
      rw [HE.out, ← kepT_all, ann_len]
    have H0 : Hid (OwS w2.heap.size w2 (.slice none 0 0) (kepT (ann [] l) (visB (ann [] l)) 0) ∧ Below w2.heap.size w2 w2) := ⟨OwS.nil _ _, Below.refl _ _⟩
    clear HC HPi HVi HPp HP1 H1 HV2 hat1 hvl hcl HE
    generalize visB (ann [] l) = vb at *
    generalize ann [] l = A at *
    go_wp2_with fail
    go_loopw [6, 20] (fun u i wr => ∃ k : Nat, i = .int .i64 k ∧ k ≤ l.length ∧ Hid (OwS w2.heap.size wr u (kepT A vb k) ∧ Below w2.heap.size w2 wr)) (fun _ i _ => l.length - (intOf i).toNat)
    case atStart => exact ⟨0, rfl, Nat.zero_le _, H0⟩
    case round =>
      clear H0
      obtain ⟨k, rfl, hk, HK⟩ := hrel
      by_cases hlt : k < l.length
      · have ik : (k : Int) < l.length := by omega
        obtain ⟨g, o, rfl, hg, hat⟩ := HG.out (by omega)
        obtain ⟨p, b, hp1, hb1, hp2, hcb⟩ := HUS.out k hlt
        have HBw : Hid (Below w.heap.size w wr) := H2.out.trans (HK.out.2.mono H2.out.size)
        have hx := (hat k hlt).kept (w' := wr) fun j => HBw.out.cell (p := ⟨g, j, none⟩) hg
        rw [← hp2] at hx
        have HNx : Hid (kepT A vb (k + 1) = kepT A vb k ++ if kepB p b = true then [p.1] else []) := kepT_next hp1 hb1
        have HDk : Hid (∀ W, Calls Try.prog 40 #[(Value.agg #[.int .u8 p.1.k, .int .i64 p.1.r.x, .int .i64 p.1.r.y, .int .i64 p.1.r.w, .int .i64 p.1.r.h, .int .u8 p.1.c.r, .int .u8 p.1.c.g, .int .u8 p.1.c.b, .int .u8 p.1.c.a, .int .u8 p.1.b.r, .int .u8 p.1.b.g, .int .u8 p.1.b.b, .int .u8 p.1.b.a, .string p.1.t, .int .i64 p.1.n])] W fun e w' => e = .returned (.bool (drw p.1)) ∧ Below W.heap.size W w') := by rw [hp2]; exact fun W => HDr.out _ (List.getElem_mem hlt) W
        have hle := kepT_len A vb k
        obtain ⟨L, hL⟩ : ∃ L, L = kepT A vb k := ⟨_, rfl⟩
        rw [← hL] at HK HNx hle
        obtain ⟨x, hxx⟩ : ∃ x, x = p.1 := ⟨_, rfl⟩
        have HKb : Hid (kepB p b = (b || !drw x)) := by unfold Hid kepB; rw [hxx]
        rw [← hxx] at hx HDk HNx
        obtain ⟨bx, hbx⟩ : ∃ bx, bx = wr.heap.size := ⟨_, rfl⟩
        have HBX : Hid (∀ W, Below (wr.alloc (.cells (#[.int .u8 x.k, .int .i64 x.r.x, .int .i64 x.r.y, .int .i64 x.r.w, .int .i64 x.r.h, .int .u8 x.c.r, .int .u8 x.c.g, .int .u8 x.c.b, .int .u8 x.c.a, .int .u8 x.b.r, .int .u8 x.b.g, .int .u8 x.b.b, .int .u8 x.b.a, .string x.t, .int .i64 x.n]) 31)).heap.size (wr.alloc (.cells (#[.int .u8 x.k, .int .i64 x.r.x, .int .i64 x.r.y, .int .i64 x.r.w, .int .i64 x.r.h, .int .u8 x.c.r, .int .u8 x.c.g, .int .u8 x.c.b, .int .u8 x.c.a, .int .u8 x.b.r, .int .u8 x.b.g, .int .u8 x.b.b, .int .u8 x.b.a, .string x.t, .int .i64 x.n]) 31)) W → Bk W bx (#[.int .u8 x.k, .int .i64 x.r.x, .int .i64 x.r.y, .int .i64 x.r.w, .int .i64 x.r.h, .int .u8 x.c.r, .int .u8 x.c.g, .int .u8 x.c.b, .int .u8 x.c.a, .int .u8 x.b.r, .int .u8 x.b.g, .int .u8 x.b.b, .int .u8 x.b.a, .string x.t, .int .i64 x.n]) 31 ∧ Below wr.heap.size wr W) := fun W h => by
          have h2 : Below wr.heap.size wr (wr.alloc (.cells (#[.int .u8 x.k, .int .i64 x.r.x, .int .i64 x.r.y, .int .i64 x.r.w, .int .i64 x.r.h, .int .u8 x.c.r, .int .u8 x.c.g, .int .u8 x.c.b, .int .u8 x.c.a, .int .u8 x.b.r, .int .u8 x.b.g, .int .u8 x.b.b, .int .u8 x.b.a, .string x.t, .int .i64 x.n]) 31)) := (Below.refl _ _).alloc (Nat.le_refl _) _
          refine ⟨?_, h2.trans (h.mono h2.size)⟩
          rw [hbx]
          exact (Bk.new wr _ _).below h
        have HXB : Hid (bx = wr.heap.size) := hbx
        have hgw : g < wr.heap.size := Nat.lt_of_lt_of_le hg HBw.out.size
        have hcell : (wr.alloc (.cells (#[.int .u8 x.k, .int .i64 x.r.x, .int .i64 x.r.y, .int .i64 x.r.w, .int .i64 x.r.h, .int .u8 x.c.r, .int .u8 x.c.g, .int .u8 x.c.b, .int .u8 x.c.a, .int .u8 x.b.r, .int .u8 x.b.g, .int .u8 x.b.b, .int .u8 x.b.a, .string x.t, .int .i64 x.n]) 31)).cell? ⟨g1, k, none⟩ = some (.bool b) := hcb _ (HK.out.2.trans (((Below.refl _ wr).alloc (Nat.le_refl _) _).mono HK.out.2.size))
        have hc3 : Hid (L.length + 1 ≤ maxLen) := by unfold Hid maxLen; omega
        have hc4 : Hid ((L.length + 1) * 72 ≤ 140737488355328) := by unfold Hid; omega
        have hcw : wr.cell? ⟨g1, k, none⟩ = some (.bool b) := hcb _ HK.out.2
        have HApp : Hid (∀ W, Bk W bx (#[.int .u8 x.k, .int .i64 x.r.x, .int .i64 x.r.y, .int .i64 x.r.w, .int .i64 x.r.h, .int .u8 x.c.r, .int .u8 x.c.g, .int .u8 x.c.b, .int .u8 x.c.a, .int .u8 x.b.r, .int .u8 x.b.g, .int .u8 x.b.b, .int .u8 x.b.a, .string x.t, .int .i64 x.n]) 31 ∧ Below wr.heap.size wr W → OwS w2.heap.size W u6 L ∧ Below w2.heap.size w2 W) := fun W h => ⟨HK.out.1.below h.2, HK.out.2.trans (h.2.mono HK.out.2.size)⟩
        clear hat hp1 hb1 hp2 hcb HUS HG hbx hL hxx HDr HK
        obtain ⟨x0, x1, x2, x3, x4, x5, x6, x7, x8, x9, x10, x11, x12, x13, x14⟩ := hx
        cases b with
        | true =>
          have HKe : Hid (kepT A vb (k + 1) = L ++ [x]) := by unfold Hid; rw [HNx.out, HKb.out]; rfl
          obtain ⟨w3, hw3⟩ : ∃ w3, w3 = wr.alloc (.cells (#[.int .u8 x.k, .int .i64 x.r.x, .int .i64 x.r.y, .int .i64 x.r.w, .int .i64 x.r.h, .int .u8 x.c.r, .int .u8 x.c.g, .int .u8 x.c.b, .int .u8 x.c.a, .int .u8 x.b.r, .int .u8 x.b.g, .int .u8 x.b.b, .int .u8 x.b.a, .string x.t, .int .i64 x.n]) 31) := ⟨_, rfl⟩
          have H3 : Hid (Bk w3 bx (#[.int .u8 x.k, .int .i64 x.r.x, .int .i64 x.r.y, .int .i64 x.r.w, .int .i64 x.r.h, .int .u8 x.c.r, .int .u8 x.c.g, .int .u8 x.c.b, .int .u8 x.c.a, .int .u8 x.b.r, .int .u8 x.b.g, .int .u8 x.b.b, .int .u8 x.b.a, .string x.t, .int .i64 x.n]) 31 ∧ Below wr.heap.size wr w3) := HBX.out w3 (by rw [hw3]; exact Below.refl _ _)
          have HA : Hid (∀ o, (w3.alloc o).ownsRow w2.heap.size 31 15 u6 L.length (flatZ L) ∧ w2.heap.size ≤ (w3.alloc o).heap.size) := fun o => ⟨row_below (HApp.out w3 H3.out).1 ((Below.refl _ _).alloc (Nat.le_refl _) _), by have := (HApp.out w3 H3.out).2.size; simp; omega⟩
          go_upto_region 10 with fail
          rw [← HXB.out]
          rw [← hw3]
          clear hw3
          have cc := H3.out.1.cell
          have a0 := cc 0
          have a1 := cc 1
          have a2 := cc 2
          have a3 := cc 3
          have a4 := cc 4
          have a5 := cc 5
          have a6 := cc 6
          have a7 := cc 7
          have a8 := cc 8
          have a9 := cc 9
          have a10 := cc 10
          have a11 := cc 11
          have a12 := cc 12
          have a13 := cc 13
          have a14 := cc 14
          clear cc x0 x1 x2 x3 x4 x5 x6 x7 x8 x9 x10 x11 x12 x13 x14
          simp only [List.getElem?_toArray, List.getElem?_cons_zero, List.getElem?_cons_succ] at a0 a1 a2 a3 a4 a5 a6 a7 a8 a9 a10 a11 a12 a13 a14
          go_wp2_with (at_builtin; refine wpList_append_lies _ rfl _ _ 36 rfl w2.heap.size 31 j0 (.agg #[.int .u8 0, .int .i64 0, .int .i64 0, .int .i64 0, .int .i64 0, .int .u8 0, .int .u8 0, .int .u8 0, .int .u8 0, .int .u8 0, .int .u8 0, .int .u8 0, .int .u8 0, .string ByteArray.empty, .int .i64 0]) 15 72 Try.underlying36 ki kz0 kz1 kz2 rfl (by decide) u6 L.length (flatZ L) rfl (HA.out _).1 _ 1 1 (sCel x) rfl rfl (cell_strokeB _ _ _ _ rfl) (oneZ x) (by decide) hc3.out hc4.out (HA.out _).2 _ rfl ?_)
          intro g4 cap4 w4 hown' hgrow hlies hg4
          have HRel : Hid (OwS w2.heap.size w4 (.slice (some ⟨g4, 0, none⟩) (L.length + 1) cap4) (kepT A vb (k + 1)) ∧ Below w2.heap.size w2 w4) := by
            rw [HKe.out]
            refine ⟨snocS rfl hown', ?_⟩
            have b3 : Below w2.heap.size w2 (w3.alloc (.cells (#[.int .u8 x.k, .int .i64 x.r.x, .int .i64 x.r.y, .int .i64 x.r.w, .int .i64 x.r.h, .int .u8 x.c.r, .int .u8 x.c.g, .int .u8 x.c.b, .int .u8 x.c.a, .int .u8 x.b.r, .int .u8 x.b.g, .int .u8 x.b.b, .int .u8 x.b.a, .string x.t, .int .i64 x.n]) 31)) := (HApp.out w3 H3.out).2.alloc (HApp.out w3 H3.out).2.size _
            exact b3.grown hgrow (HA.out _).2 (fun g hg => (row_lt (HA.out (.cells (#[.int .u8 x.k, .int .i64 x.r.x, .int .i64 x.r.y, .int .i64 x.r.w, .int .i64 x.r.h, .int .u8 x.c.r, .int .u8 x.c.g, .int .u8 x.c.b, .int .u8 x.c.a, .int .u8 x.b.r, .int .u8 x.b.g, .int .u8 x.b.b, .int .u8 x.b.a, .string x.t, .int .i64 x.n]) 31)).1 g hg).1)
          clear hown' hgrow hlies hg4 HA H3 a0 a1 a2 a3 a4 a5 a6 a7 a8 a9 a10 a11 a12 a13 a14
          go_wp2
          go_roundw
          case rel => exact ⟨k + 1, by go_num, by omega, HRel⟩
          case measure => simp [intOf]; omega
        | false =>
          go_wp2_with fail
          rw [← HXB.out]
          refine (HDk.out _).mono ?_
          rintro e w3 ⟨rfl, hb3⟩
          have H3 : Hid (Bk w3 bx (#[.int .u8 x.k, .int .i64 x.r.x, .int .i64 x.r.y, .int .i64 x.r.w, .int .i64 x.r.h, .int .u8 x.c.r, .int .u8 x.c.g, .int .u8 x.c.b, .int .u8 x.c.a, .int .u8 x.b.r, .int .u8 x.b.g, .int .u8 x.b.b, .int .u8 x.b.a, .string x.t, .int .i64 x.n]) 31 ∧ Below wr.heap.size wr w3) := HBX.out _ hb3
          clear hb3 HBX x0 x1 x2 x3 x4 x5 x6 x7 x8 x9 x10 x11 x12 x13 x14 hcell hcw
          cases hd : drw x with
          | true =>
            have HRel : Hid (OwS w2.heap.size w3 u6 (kepT A vb (k + 1)) ∧ Below w2.heap.size w2 w3) := by
              have e : kepT A vb (k + 1) = L := by rw [HNx.out, HKb.out, hd]; simp
              rw [e]
              exact HApp.out w3 H3.out
            clear H3 HApp
            go_wp2
            go_roundw
            case rel => exact ⟨k + 1, by go_num, by omega, HRel⟩
            case measure => simp [intOf]; omega
          | false =>
            have HKe : Hid (kepT A vb (k + 1) = L ++ [x]) := by unfold Hid; rw [HNx.out, HKb.out, hd]; rfl
            have HA : Hid (∀ o, (w3.alloc o).ownsRow w2.heap.size 31 15 u6 L.length (flatZ L) ∧ w2.heap.size ≤ (w3.alloc o).heap.size) := fun o => ⟨row_below (HApp.out w3 H3.out).1 ((Below.refl _ _).alloc (Nat.le_refl _) _), by have := (HApp.out w3 H3.out).2.size; simp; omega⟩
            have cc := H3.out.1.cell
            have a0 := cc 0
            have a1 := cc 1
            have a2 := cc 2
            have a3 := cc 3
            have a4 := cc 4
            have a5 := cc 5
            have a6 := cc 6
            have a7 := cc 7
            have a8 := cc 8
            have a9 := cc 9
            have a10 := cc 10
            have a11 := cc 11
            have a12 := cc 12
            have a13 := cc 13
            have a14 := cc 14
            clear cc
            simp only [List.getElem?_toArray, List.getElem?_cons_zero, List.getElem?_cons_succ] at a0 a1 a2 a3 a4 a5 a6 a7 a8 a9 a10 a11 a12 a13 a14
            go_wp2_with (at_builtin; refine wpList_append_lies _ rfl _ _ 36 rfl w2.heap.size 31 j0 (.agg #[.int .u8 0, .int .i64 0, .int .i64 0, .int .i64 0, .int .i64 0, .int .u8 0, .int .u8 0, .int .u8 0, .int .u8 0, .int .u8 0, .int .u8 0, .int .u8 0, .int .u8 0, .string ByteArray.empty, .int .i64 0]) 15 72 Try.underlying36 ki kz0 kz1 kz2 rfl (by decide) u6 L.length (flatZ L) rfl (HA.out _).1 _ 1 1 (sCel x) rfl rfl (cell_strokeB _ _ _ _ rfl) (oneZ x) (by decide) hc3.out hc4.out (HA.out _).2 _ rfl ?_)
            intro g4 cap4 w4 hown' hgrow hlies hg4
            have HRel : Hid (OwS w2.heap.size w4 (.slice (some ⟨g4, 0, none⟩) (L.length + 1) cap4) (kepT A vb (k + 1)) ∧ Below w2.heap.size w2 w4) := by
              rw [HKe.out]
              refine ⟨snocS rfl hown', ?_⟩
              have b3 : Below w2.heap.size w2 (w3.alloc (.cells (#[.int .u8 x.k, .int .i64 x.r.x, .int .i64 x.r.y, .int .i64 x.r.w, .int .i64 x.r.h, .int .u8 x.c.r, .int .u8 x.c.g, .int .u8 x.c.b, .int .u8 x.c.a, .int .u8 x.b.r, .int .u8 x.b.g, .int .u8 x.b.b, .int .u8 x.b.a, .string x.t, .int .i64 x.n]) 31)) := (HApp.out w3 H3.out).2.alloc (HApp.out w3 H3.out).2.size _
              exact b3.grown hgrow (HA.out _).2 (fun g hg => (row_lt (HA.out (.cells (#[.int .u8 x.k, .int .i64 x.r.x, .int .i64 x.r.y, .int .i64 x.r.w, .int .i64 x.r.h, .int .u8 x.c.r, .int .u8 x.c.g, .int .u8 x.c.b, .int .u8 x.c.a, .int .u8 x.b.r, .int .u8 x.b.g, .int .u8 x.b.b, .int .u8 x.b.a, .string x.t, .int .i64 x.n]) 31)).1 g hg).1)
            clear hown' hgrow hlies hg4 HA H3 a0 a1 a2 a3 a4 a5 a6 a7 a8 a9 a10 a11 a12 a13 a14
            go_wp2
            go_roundw
            case rel => exact ⟨k + 1, by go_num, by omega, HRel⟩
            case measure => simp [intOf]; omega
      · obtain rfl : k = l.length := by omega
        have HBy : Hid (Calls Try.prog 41 #[u6] wr fun e w' => ∃ u, e = .returned u ∧ Hid (OwS w2.heap.size w' u (norE l) ∧ wr.grownBy w' (u6 : Value).ownBlock ∧ u.ownBlock = (u6 : Value).ownBlock ∧ ∃ M, OwS w2.heap.size w' u6 M)) := by
          have h := lbusy_any _ _ _ _ HK.out.1 (Nat.le_trans (kepT_len _ _ _) (by omega))
          rw [HFn.out] at h
          exact h
        have HFin : Hid (∀ w', wr.grownBy w' (u6 : Value).ownBlock → Below w.heap.size w w') := fun w' h => by
          have h5 : Below w2.heap.size w2 w' := HK.out.2.grown h HK.out.2.size (fun g hg => (row_lt HK.out.1 g hg).1)
          exact H2.out.trans (h5.mono H2.out.size)
        clear HK HUS HDr HG
        go_wp2_with fail
        refine HBy.out.mono ?_
        rintro e w5 ⟨u, rfl, H5⟩
        have HF : Hid (OwS w.heap.size w5 u (norE l) ∧ Below w.heap.size w w5) := ⟨H5.out.1.weaken H2.out.size, HFin.out _ H5.out.2.1⟩
        clear H5 HBy
        go_wp2
        go_ret2
        exact ⟨u, rfl, HF⟩

theorem l_norm (HVis : LVis) : LNorm := fun l v w hv hw => lnorm_any HVis l v w hv hw.txs hw.xys (fun s hs => (hw s hs).2.2.1.2.2.2.1)

end Go.Proofs.Ytbghjmkgicdnoaa

/-
  A range over an iterator that keeps a variable of its own in cells (one block, the first that it lays): the caller's law, and what the iterator owes.
-/
namespace Go.Proofs.Ytbghjmkgicdnoaa
open Go.RowKit

variable {F : Fence} {n : Nat} {P : Program}

/-- What is said of a world abides stores into block b. -/
def Stores {β : Type} (b : Nat) (J : β → World → Prop) : Prop := ∀ s W o v, J s W → J s (W.setCell ⟨b, o, none⟩ v)

/-- What an iterator owes whose own variable lies in the first block that it lays. -/
def SeqC {α : Type} (F : Fence) (n : Nat) (P : Program) (g : Nat) (lb : Array Value) (encs : α → Array Value) (Kp : World → World → Prop) (S Sp : List α → Prop) (ok : List α → α → Prop) (w : World) : Prop :=
  ∀ (l : Nat) (J Jx : List α → World → Prop) (W : World), Below w.heap.size w W → W.heap.size = w.heap.size + 2 → AbidesFrom W.heap.size J → AbidesFrom W.heap.size Jx → Stores W.heap.size J → Stores W.heap.size Jx →
    (∀ pre x W1, J pre W1 → ok pre x → W.heap.size + 1 < W1.heap.size → YieldAt F (n - 1) P l (encs x) W1 fun e W' =>
      (e = .returned (.bool true) ∧ J (pre ++ [x]) W' ∧ Kp W1 W') ∨ (e = .returned (.bool false) ∧ Jx (pre ++ [x]) W')) →
    J [] W →
    CallsIn F n P g (#[.func (.yield l) #[] #[]] ++ lb) W fun e W' => (∃ v, e = .returned v) ∧ ((∃ xs, S xs ∧ J xs W') ∨ (∃ pre, Sp pre ∧ Jx pre W'))

/-- A block that is no cells stands over a store. -/
theorem same_set {W : World} {p : Addr} {v : Value} {k : Nat} {o : Obj} (h : W.heap[k]? = some o) (hk : p.block ≠ k) : (W.setCell p v).heap[k]? = some o := by
  exact (Below.heap_setCell _ _ _ k (fun e => hk e.symm)).trans h

set_option maxHeartbeats 1000000 in
theorem range_c {α : Type} {g : Operand} {ps : Array Tmp} {assign body : Code} {Q : Exit → Act → World → Prop} {a : Act} {w : World}
    (hro : F.round = none) (h1 : 1 ≤ n) {gf : Nat} {lb : Array Value} (hg : a.eval g = .func (.func gf) #[] lb) (hFg : F.fn gf) (eg : ∀ args w, (callFunc gf args).run P w = .ok (.enter gf args) w)
    {encs : α → Array Value} {Kp : World → World → Prop} {S Sp : List α → Prop} {ok : List α → α → Prop} (hseq : SeqC F (n - 1) P gf lb encs Kp S Sp ok w)
    (hKt : ∀ {A B C : World}, Kp A B → Kp B C → Kp A C) (hKb : ∀ (W : World) (l : Nat) (o o' : Obj), w.heap.size ≤ l → W.heap[l]? = some o → o.isCells = false → o.isWalk = false → Kp W (W.putObj l o'))
    (hps : ∀ x, (encs x).size = ps.size)
    (I : List α → World → Prop) (Ix : Code → List α → World → Prop) (hI : OwnFrom w.heap.size I) (hIx : ∀ c, OwnFrom w.heap.size (Ix c)) (hS : Stores (w.heap.size + 2) I) (hSx : ∀ c, Stores (w.heap.size + 2) (Ix c))
    (h0 : I [] w) (Ax : α → Act → World → Prop) (hAx : ∀ x a', OwnFrom w.heap.size (fun (_ : Unit) W => Ax x a' W))
    (hassign : ∀ (l : Nat) (pre : List α) (x : α) (W : World) (K : Act → World → Prop), I pre W → w.heap.size + 3 < W.heap.size → (∀ a' W', KeepsFrom w.heap.size W W' → Kp W W' → I pre W' → Ax x a' W' → K a' W') →
      assign.wpIn (F.inRound l) (n - 1 - 1) P (Exit.then K (fun _ _ _ => False)) { tmps := (ps.zip (encs x)).foldl (fun t (p, v) => t.setIfInBounds p v) a.tmps, defers := [] } W)
    (hbody : ∀ (l : Nat) (pre : List α) (x : α) (a' : Act) (W : World), I pre W → Ax x a' W → ok pre x → w.heap.size + 3 < W.heap.size → body.wpIn (F.inRound l) (n - 1 - 1) P (ownPostG w.heap.size Kp I Ix (pre ++ [x]) W) a' W)
    (hdone : ∀ (D : Nat) (xs : List α) (W : World), w.heap.size ≤ D → S xs → I xs W → W.heap[D]? = some (.deferred (some [])) → Q .normal { a with defers := { target := .collected D, args := #[] } :: a.defers } W)
    (hstop : ∀ (D : Nat) (c : Code) (pre : List α) (W : World), w.heap.size ≤ D → Sp pre → Ix c pre W → W.heap[D]? = some (.deferred (some [])) → c.wpIn F n P Q { a with defers := { target := .collected D, args := #[] } :: a.defers } W) :
    (Code.rangeFunc g ps assign body).wpIn F n P Q a w := by
  refine wpIn_rangeFunc fun fn hfn => ?_
  rw [hro]
  obtain ⟨R, hR⟩ : ∃ R : LoopState → Option Code → Loop, R = fun st pe => { state := st, pending := pe, fn, tmps := a.tmps, params := ps, assign, body, defers := w.heap.size } := ⟨_, rfl⟩
  obtain ⟨V, hV⟩ : ∃ V, (w.alloc (.deferred (some []))).alloc (.loop (R .ready none)) = V := ⟨_, rfl⟩
  have sV : V.heap.size = w.heap.size + 2 := by rw [← hV]; simp
  have rV : V.heap[w.heap.size + 1]? = some (.loop (R .ready none)) := by
    have := World.alloc_heap_new (w.alloc (.deferred (some []))) (.loop (R .ready none))
    rwa [World.size_alloc, hV] at this
  have dV : V.heap[w.heap.size]? = some (.deferred (some [])) := by
    rw [← hV]; exact (Below.heap_alloc _ _ _ (by simp)).trans (World.alloc_heap_new w _)
  have iV : I [] V := by rw [← hV]; exact hI.alloc _ (hI.alloc _ h0)
  have bV : Below w.heap.size w V := by
    rw [← hV]; exact ((Below.refl _ w).alloc (Nat.le_refl _) _).alloc (by simp) _
  refine ⟨w.heap.size + 1, [{ target := .collected w.heap.size, args := #[] }], V, { target := .fn (.func gf) lb, args := #[.func (.yield (w.heap.size + 1)) #[] #[]] }, V, gf,
    #[.func (.yield (w.heap.size + 1)) #[] #[]] ++ lb, V, ?_, ?_, ?_, ?_, fun _ => h1, ?_⟩
  · rw [← hV, hR]; exact run_enterLoop_outer _ _ _ _ _
  · simp only [resolve, hg]
    simp [go_sem]
  · intro f' hf'; simp [Target.leads] at hf'; subst hf'; exact hFg
  · simp [invoke, go_sem, eg]
  have up : ∀ {A : World} {row : Option Nat}, (∀ r, row = some r → V.heap.size ≤ r ∧ ∃ o : Obj, A.heap[r]? = some o ∧ o.isWalk = true) → (∀ r, row = some r → w.heap.size ≤ r ∧ ∃ o : Obj, A.heap[r]? = some o ∧ o.isCells = false) :=
    fun hr r e => by
      obtain ⟨hB, o, ho, hw⟩ := hr r e
      exact ⟨by omega, o, ho, Obj.not_cells_of_walk hw⟩
  have setJ : ∀ {K : World → Prop} {st : LoopState} {pe : Option Code}, (∀ W o v, K W → K (W.setCell ⟨w.heap.size + 2, o, none⟩ v)) → ∀ (W : World) (o : Nat) (v : Value),
      (K W ∧ W.heap[w.heap.size + 1]? = some (.loop (R st pe)) ∧ W.heap[w.heap.size]? = some (.deferred (some []))) →
      (K (W.setCell ⟨w.heap.size + 2, o, none⟩ v) ∧ (W.setCell ⟨w.heap.size + 2, o, none⟩ v).heap[w.heap.size + 1]? = some (.loop (R st pe)) ∧ (W.setCell ⟨w.heap.size + 2, o, none⟩ v).heap[w.heap.size]? = some (.deferred (some []))) :=
    fun hK W o v ⟨k, l, d⟩ => ⟨hK W o v k, same_set l (by simp), same_set d (by simp)⟩
  refine (hseq (w.heap.size + 1)
    (fun pre W => I pre W ∧ W.heap[w.heap.size + 1]? = some (.loop (R .ready none)) ∧ W.heap[w.heap.size]? = some (.deferred (some [])))
    (fun pre W => ∃ c, Ix c pre W ∧ W.heap[w.heap.size + 1]? = some (.loop (R .done (some c))) ∧ W.heap[w.heap.size]? = some (.deferred (some [])))
    V bV sV ?abJ ?abX ?stJ ?stX ?yields ⟨iV, rV, dV⟩).mono ?behind
  case abJ =>
    intro s A B row hs gr hr
    exact ⟨hI s A B row hs.1 gr (up hr), (grownBy_keeps gr (fun r e => (hr r e).2) hs.2.1 rfl).trans hs.2.1, (grownBy_keeps gr (fun r e => (hr r e).2) hs.2.2 rfl).trans hs.2.2⟩
  case abX =>
    intro s A B row hs gr hr
    obtain ⟨c, hc, hl, hk⟩ := hs
    exact ⟨c, hIx c s A B row hc gr (up hr), (grownBy_keeps gr (fun r e => (hr r e).2) hl rfl).trans hl, (grownBy_keeps gr (fun r e => (hr r e).2) hk rfl).trans hk⟩
  case stJ =>
    intro s W o v hs
    rw [sV]
    exact setJ (fun W o v => hS s W o v) W o v hs
  case stX =>
    intro s W o v hs
    obtain ⟨c, hs⟩ := hs
    rw [sV]
    exact ⟨c, setJ (fun W o v => hSx c s W o v) W o v hs⟩
  case yields =>
    rintro pre x W ⟨hi, hl, hk⟩ hlen hsz
    rw [sV] at hsz
    have hy := run_yield (P := P) (args := encs x) hl (by rw [hR]; exact hps x)
    rw [hR] at hy
    refine ⟨fn, _, assign, body, hy, roundIn_of_wpIn hfn (hassign _ pre x W _ hi hsz ?_)⟩
    clear hy
    intro a' U hkf hkp hi' hax
    replace hl := hkf.same _ _ (by omega) hl rfl
    replace hk := hkf.same _ _ (Nat.le_refl _) hk rfl
    have hlt : w.heap.size + 1 < U.heap.size := (Array.getElem?_eq_some_iff.1 hl).1
    have szU : w.heap.size + 3 < U.heap.size := Nat.lt_of_lt_of_le hsz hkf.size
    refine ⟨_, run_beginRound hl (by rw [hR]), ?_⟩
    obtain ⟨X, hX⟩ : ∃ X, U.putObj (w.heap.size + 1) (.loop { R .ready none with state := .busy }) = X := ⟨_, rfl⟩
    have lX : X.heap[w.heap.size + 1]? = some (.loop { R .ready none with state := .busy }) := by rw [← hX]; exact World.putObj_heap_same hlt
    have kX : X.heap[w.heap.size]? = some (.deferred (some [])) := by rw [← hX]; exact (World.putObj_heap_other (by omega)).trans hk
    have pX : Kp U X := by rw [← hX]; exact hKb _ _ _ _ (by omega) hl rfl rfl
    have iX : I pre X := by rw [← hX]; exact hI.putObj _ hi' (by omega) hl rfl
    have aX : Ax x a' X := by rw [← hX]; exact (hAx x a').putObj (s := ()) _ hax (by omega) hl rfl
    have szX : w.heap.size + 3 < X.heap.size := by rw [← hX]; simpa [World.putObj] using szU
    rw [hX]
    refine wpIn_mono (hbody _ pre x a' X iX aX hlen szX) ?_
    have fin : ∀ (jump : Option Code) (Y : World), KeepsFrom w.heap.size X Y →
        (Instr.endRound (w.heap.size + 1) jump).run P Y = .ok (.bool jump.isNone) (Y.putObj (w.heap.size + 1) (.loop (R (if jump.isNone then .ready else .done) jump))) ∧
        Y.heap[w.heap.size + 1]? = some (.loop { R .ready none with state := .busy }) ∧
        (Y.putObj (w.heap.size + 1) (.loop (R (if jump.isNone then .ready else .done) jump))).heap[w.heap.size + 1]? = some (.loop (R (if jump.isNone then .ready else .done) jump)) ∧
        (Y.putObj (w.heap.size + 1) (.loop (R (if jump.isNone then .ready else .done) jump))).heap[w.heap.size]? = some (.deferred (some [])) := fun jump Y hkY => by
      have lY := hkY.same _ _ (by omega) lX rfl
      have := run_endRound (P := P) jump lY
      rw [hR] at this ⊢
      exact ⟨this, by rw [hR] at lY; exact lY, World.putObj_heap_same (Array.getElem?_eq_some_iff.1 lY).1, (World.putObj_heap_other (by omega)).trans (hkY.same _ _ (Nat.le_refl _) kX rfl)⟩
    rintro e a3 Y hp
    cases e with
    | normal =>
      obtain ⟨hkY, hpY, hiY⟩ := hp
      obtain ⟨hr, hl3, hl4, hk4⟩ := fin none Y hkY
      exact ⟨_, _, hr, .inl ⟨rfl, ⟨hI.putObj _ hiY (by omega) hl3 rfl, hl4, hk4⟩, hKt hkp (hKt (hKt pX hpY) (hKb _ _ _ _ (by omega) hl3 rfl rfl))⟩⟩
    | ret =>
      obtain ⟨hkY, hiY⟩ := hp
      obtain ⟨hr, hl3, hl4, hk4⟩ := fin (some .ret) Y hkY
      exact ⟨_, _, hr, .inr ⟨rfl, .ret, (hIx _).putObj _ hiY (by omega) hl3 rfl, hl4, hk4⟩⟩
    | exit id =>
      obtain ⟨hkY, hiY⟩ := hp
      obtain ⟨hr, hl3, hl4, hk4⟩ := fin (some (.exit id)) Y hkY
      exact ⟨_, _, hr, .inr ⟨rfl, .exit id, (hIx _).putObj _ hiY (by omega) hl3 rfl, hl4, hk4⟩⟩
    | goto t =>
      obtain ⟨hkY, hiY⟩ := hp
      obtain ⟨hr, hl3, hl4, hk4⟩ := fin (some (.goto t)) Y hkY
      exact ⟨_, _, hr, .inr ⟨rfl, .goto t, (hIx _).putObj _ hiY (by omega) hl3 rfl, hl4, hk4⟩⟩
    | panic ch => exact hp.elim
    | outgrown => exact hp.elim
  case behind =>
    rintro e Y ⟨⟨v, rfl⟩, (⟨xs, hxs, hi, hl, hk⟩ | ⟨pre, hpre, c, hi, hl, hk⟩)⟩
    · exact ⟨none, _, by have := run_endLoop (P := P) hl (by rw [hR]; simp); rw [hR] at this; exact this, hdone _ xs _ (Nat.le_refl _) hxs (hI.putObj _ hi (by omega) hl rfl) ((World.putObj_heap_other (by omega)).trans hk)⟩
    · exact ⟨some c, _, by have := run_endLoop (P := P) hl (by rw [hR]; simp); rw [hR] at this; exact this, hstop _ c pre _ (Nat.le_refl _) hpre ((hIx c).putObj _ hi (by omega) hl rfl) ((World.putObj_heap_other (by omega)).trans hk)⟩

/-- All blocks but some of the caller's own lie as they lay. -/
def Kept (ow : Nat → Prop) (W W' : World) : Prop := W.heap.size ≤ W'.heap.size ∧ ∀ k o, ¬ ow k → (o.isCells = true ∨ o.isWalk = true) → W.heap[k]? = some o → W'.heap[k]? = some o
theorem Kept.refl (ow : Nat → Prop) (W : World) : Kept ow W W := ⟨Nat.le_refl _, fun _ _ _ _ h => h⟩
theorem Kept.trans {ow : Nat → Prop} {A B C : World} (h : Kept ow A B) (k : Kept ow B C) : Kept ow A C := ⟨Nat.le_trans h.1 k.1, fun i o hi ho e => k.2 i o hi ho (h.2 i o hi ho e)⟩
theorem Kept.put {ow : Nat → Prop} (W : World) (l : Nat) (o o' : Obj) (hl : W.heap[l]? = some o) (hc : o.isCells = false) (hw : o.isWalk = false) : Kept ow W (W.putObj l o') := by
  refine ⟨by simp [World.putObj], fun k x _ hx e => ?_⟩
  by_cases hk : l = k
  · subst hk
    rw [hl] at e
    cases e
    rw [hc, hw] at hx
    simp at hx
  · exact (World.putObj_heap_other (Ne.symm hk)).trans e
theorem Kept.below {ow : Nat → Prop} {W W' : World} (h : Below W.heap.size W W') : Kept ow W W' := ⟨h.size, fun k _ _ _ e => (h.block k (Array.getElem?_eq_some_iff.1 e).1).trans e⟩
theorem Kept.set {ow : Nat → Prop} {W A : World} (h : Kept ow W A) (b o : Nat) (v : Value) (hb : ow b) : Kept ow W (A.setCell ⟨b, o, none⟩ v) :=
  h.trans ⟨(KeepsWalks.setCell A _ v).size, fun k x hk _ e => same_set e (fun he => hk (by simp at he; rw [← he]; exact hb))⟩

theorem AbidesFrom.below {β : Type} {B : Nat} {J : β → World → Prop} (h : AbidesFrom B J) {s : β} {W W' : World} (hs : J s W) (hb : Below W.heap.size W W') : J s W' :=
  h s W W' none hs ⟨hb.os, hb.tape, hb.output, hb.size, fun k hk _ => hb.block k hk⟩ (fun r e => by cases e)
theorem OwnFrom.below {β : Type} {B : Nat} {J : β → World → Prop} (h : OwnFrom B J) {s : β} {W W' : World} (hs : J s W) (hb : Below W.heap.size W W') : J s W' :=
  h s W W' none hs ⟨hb.os, hb.tape, hb.output, hb.size, fun k hk _ => hb.block k hk⟩ (fun r e => by cases e)

/-- A block of cells, written out: what is read there, and that it may be written. -/
def Blk (W : World) (b : Nat) (vs : Array Value) (t : TypeId) : Prop := W.heap[b]? = some (.cells vs t)
theorem Blk.lt {W : World} {b : Nat} {vs : Array Value} {t : TypeId} (h : Blk W b vs t) : b < W.heap.size := (Array.getElem?_eq_some_iff.1 h).1
theorem Blk.cell {W : World} {b : Nat} {vs : Array Value} {t : TypeId} (h : Blk W b vs t) (o : Nat) : W.cell? ⟨b, o, none⟩ = vs[o]? := by
  simp [World.cell?, show W.heap[b]? = _ from h]
theorem Blk.frozen {W : World} {b : Nat} {vs : Array Value} {t : TypeId} (h : Blk W b vs t) (o : Nat) : W.frozen? ⟨b, o, none⟩ = false := by
  simp [World.frozen?, show W.heap[b]? = _ from h]
theorem Blk.below {W W' : World} {b : Nat} {vs : Array Value} {t : TypeId} (h : Blk W b vs t) (hb : Below W.heap.size W W') : Blk W' b vs t := (hb.block b h.lt).trans h
theorem Blk.kept {ow : Nat → Prop} {W W' : World} {b : Nat} {vs : Array Value} {t : TypeId} (h : Blk W b vs t) (k : Kept ow W W') (hb : ¬ ow b) : Blk W' b vs t := k.2 b _ hb (.inl rfl) h
theorem Blk.alloc {W : World} {b : Nat} {vs : Array Value} {t : TypeId} (h : Blk W b vs t) (o : Obj) : Blk (W.alloc o) b vs t := h.below ((Below.refl _ _).alloc (Nat.le_refl _) o)
theorem Blk.new (W : World) (vs : Array Value) (t : TypeId) : Blk (W.alloc (.cells vs t)) W.heap.size vs t := World.alloc_heap_new W _
theorem Blk.other {W : World} {b : Nat} {vs : Array Value} {t : TypeId} (h : Blk W b vs t) (p : Addr) (v : Value) (hp : p.block ≠ b) : Blk (W.setCell p v) b vs t := same_set h hp

theorem Blk.put {W : World} {b : Nat} {vs : Array Value} {t : TypeId} (h : Blk W b vs t) (o : Nat) (v : Value) : Blk (W.setCell ⟨b, o, none⟩ v) b (vs.setIfInBounds o v) t := heap_setCell_same W b o vs t v h
theorem Blk.put4 {W : World} {b : Nat} {a0 a1 a2 a3 : Value} {t : TypeId} (h : Blk W b #[a0, a1, a2, a3] t) (v0 v1 v2 v3 : Value) :
    Blk ((((W.setCell ⟨b, 0, none⟩ v0).setCell ⟨b, 1, none⟩ v1).setCell ⟨b, 2, none⟩ v2).setCell ⟨b, 3, none⟩ v3) b #[v0, v1, v2, v3] t := by
  simpa using (((h.put 0 v0).put 1 v1).put 2 v2).put 3 v3
theorem Blk.put41 {W : World} {b : Nat} {a0 a1 a2 a3 : Value} {t : TypeId} (h : Blk W b #[a0, a1, a2, a3] t) (v : Value) : Blk (W.setCell ⟨b, 1, none⟩ v) b #[a0, v, a2, a3] t := by
  simpa using h.put 1 v
theorem Blk.at4 {W : World} {b : Nat} {a0 a1 a2 a3 : Value} {t : TypeId} (h : Blk W b #[a0, a1, a2, a3] t) : W.cell? ⟨b, 0, none⟩ = some a0 ∧ W.cell? ⟨b, 1, none⟩ = some a1 ∧ W.cell? ⟨b, 2, none⟩ = some a2 ∧ W.cell? ⟨b, 3, none⟩ = some a3 :=
  ⟨h.cell 0, h.cell 1, h.cell 2, h.cell 3⟩
theorem Blk.at1 {W : World} {b : Nat} {a0 : Value} {t : TypeId} (h : Blk W b #[a0] t) : W.cell? ⟨b, 0, none⟩ = some a0 := h.cell 0
theorem Blk.put1 {W : World} {b : Nat} {a0 : Value} {t : TypeId} (h : Blk W b #[a0] t) (v : Value) : Blk (W.setCell ⟨b, 0, none⟩ v) b #[v] t := by
  simpa using h.put 0 v

/-- All cells of one world stand in another. -/
def Same (w0 w1 : World) : Prop := w0.heap.size ≤ w1.heap.size ∧ ∀ (k : Nat) (o : Obj), o.isCells = true → w0.heap[k]? = some o → w1.heap[k]? = some o
theorem Same.refl (w : World) : Same w w := ⟨Nat.le_refl _, fun _ _ _ h => h⟩
theorem Same.trans {A B C : World} (h : Same A B) (k : Same B C) : Same A C := ⟨Nat.le_trans h.1 k.1, fun i o ho e => k.2 i o ho (h.2 i o ho e)⟩
theorem Same.of {w0 w1 : World} (h : Below w0.heap.size w0 w1) : Same w0 w1 := ⟨h.size, fun k _ _ e => (h.block k (Array.getElem?_eq_some_iff.1 e).1).trans e⟩
theorem Same.below {w0 A B : World} (h : Same w0 A) (hb : Below A.heap.size A B) : Same w0 B := h.trans (Same.of hb)
theorem Same.kept {ow : Nat → Prop} {w0 A B : World} (h : Same w0 A) (k : Kept ow A B) (ho : ∀ k, ow k → w0.heap.size ≤ k) : Same w0 B :=
  ⟨Nat.le_trans h.1 k.1, fun i o hc e => k.2 i o (fun hi => by have := ho i hi; have := (Array.getElem?_eq_some_iff.1 e).1; omega) (.inl hc) (h.2 i o hc e)⟩
theorem Same.set {w0 A : World} (h : Same w0 A) (b o : Nat) (v : Value) (hb : w0.heap.size ≤ b) : Same w0 (A.setCell ⟨b, o, none⟩ v) :=
  ⟨Nat.le_trans h.1 (KeepsWalks.setCell A _ v).size, fun k x hx e => same_set (h.2 k x hx e) (by have := (Array.getElem?_eq_some_iff.1 e).1; simp; omega)⟩
theorem Same.iterAt {w0 A : World} (h : Same w0 A) (k : Nat) (s : ByteArray) (p : Nat) (hk : w0.heap.size ≤ k) : Same w0 (A.iterAt k s p) :=
  ⟨by rw [Lib.iterAt_size]; exact h.1, fun i o ho e => (Lib.iterAt_other A k i s p (by have := (Array.getElem?_eq_some_iff.1 e).1; omega)).trans (h.2 i o ho e)⟩
theorem Same.cell {w0 w1 : World} (h : Same w0 w1) {p : Addr} {v : Value} (e : w0.cell? p = some v) : w1.cell? p = some v := by
  unfold World.cell? at e ⊢
  split at e
  · next c t f hc => rw [h.2 _ _ rfl hc]; exact e
  · cases e
theorem Blk.iterAt {W : World} {b : Nat} {vs : Array Value} {t : TypeId} (h : Blk W b vs t) (k : Nat) (s : ByteArray) (p : Nat) (hk : b ≠ k) : Blk (W.iterAt k s p) b vs t := (Lib.iterAt_other W k b s p hk).trans h
theorem Blk.same {w0 w1 : World} {b : Nat} {vs : Array Value} {t : TypeId} (h : Blk w0 b vs t) (k : Same w0 w1) : Blk w1 b vs t := k.2 b _ rfl h

end Go.Proofs.Ytbghjmkgicdnoaa
