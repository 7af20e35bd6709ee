/-
  Texts of this claim, one behind the other: what each is about stands ahead of it.
-/
import Derived.Test.YtbghjmkgicdnoaaK9
import Derived.Test.YtbghjmkgicdnoaaK10
import Derived.Laws.AppendOwnNone
import Derived.ProofKit
import Derived.OpenShut
import Derived.Lib.SmallJoins
import Derived.Lib.LaidU8
import Derived.Test.YtbghjmkgicdnoaaK1
/-
  Contracts: slices.Concat of two lists of rectangles; package region's Join.
-/
namespace Go.Proofs.Ytbghjmkgicdnoaa
open Go.RowKit Go.Sort Go.Shelf

theorem grow_any (n : Nat) (w : World) (hn : n ≤ 1000000) :
    Calls Try.prog 61 #[.slice none 0 0, .int .i64 n] w fun e w' => ∃ u, e = .returned u ∧ w'.ownsRow w.heap.size 27 4 u 0 [] ∧ Below w.heap.size w w' := by
  by_cases h0 : n = 0
  · subst h0
    have h := Any8.slices_Grow_room Try.growR none 0 0 0 w (Nat.le_refl _) (by omega) (by omega) (by omega)
    change Calls Try.prog 61 _ _ _ at h
    exact h.mono fun e w' ⟨he, hw⟩ => ⟨_, he, World.ownsRow_nil _ _ _ _, by rw [hw]; exact Below.refl _ _⟩
  · obtain ⟨i0, hi, hz0, hz1, hz2⟩ := info_parts info_rect
    have h := Any8.slices_Grow_grow Try.growR i0 (.agg #[.int .i64 0, .int .i64 0, .int .i64 0, .int .i64 0]) hi hz0 (by rw [hz1]; decide) none 0 0 n [] w (Nat.le_refl _) (by omega) (by rw [hz2]; omega) (by omega) (by simp) (fun _ => rfl) (fun a h => by cases h)
    change Calls Try.prog 61 _ _ _ at h
    refine h.mono fun e w' ⟨he, hw⟩ => ⟨_, he, ?_, ?_⟩
    · have hle := grownCap_le_maxLen w (0 + n) 0 27 (by unfold maxLen; omega)
      refine ⟨rfl, .inr ⟨w.heap.size, _, ([] : List Value).toArray ++ Builtin.zeroCells (Value.agg #[Value.int .i64 0, .int .i64 0, .int .i64 0, .int .i64 0]).cells (0 + n - 0) ++ Builtin.zeroCells (Value.agg #[Value.int .i64 0, .int .i64 0, .int .i64 0, .int .i64 0]).cells (grownCap w (0 + n) 0 27 - (0 + n)), rfl, Nat.le_refl _, ?_, Nat.zero_le _, hle, ?_, by simp⟩⟩
      · rw [hw]
        exact Bk.new w.drew _ _
      · have hzc : (Value.agg #[Value.int .i64 0, .int .i64 0, .int .i64 0, .int .i64 0]).cells.size = 4 := rfl
        rw [Array.size_append, Array.size_append, size_zeroCells, size_zeroCells, hzc]
        simp
        have : n ≤ grownCap w n 0 27 := grownCap_ge w n 0 27
        show n * 4 + (grownCap w n 0 27 - n) * 4 = grownCap w n 0 27 * 4
        omega
    · rw [hw]
      exact ((Below.refl _ w).drew).alloc (Nat.le_refl _) _

theorem addr_add (g o j : Nat) : (⟨g, o, none⟩ : Addr).add j = ⟨g, o + j, none⟩ := by
  unfold Addr.add
  split <;> simp_all
theorem lsr_src {w : World} {g o : Nat} {M : List Rc} (h : ∀ i (h : i < M.length), RcAt w g (o + i * 4) M[i]) : ∀ (j : Nat) (u : Value), (flat M)[j]? = some u → w.cell? ((⟨g, o, none⟩ : Addr).add j) = some u := by
  intro j u hj
  have hl : j < (flat M).length := (List.getElem?_eq_some_iff.1 hj).1
  rw [flat_len] at hl
  have hq : j / 4 < M.length := by omega
  obtain ⟨f0, f1, f2, f3⟩ := flat_at M (j / 4) hq
  obtain ⟨c0, c1, c2, c3⟩ := h (j / 4) hq
  rw [addr_add]
  rcases (show j = j / 4 * 4 ∨ j = j / 4 * 4 + 1 ∨ j = j / 4 * 4 + 2 ∨ j = j / 4 * 4 + 3 by omega) with e | e | e | e
  · rw [e, f0] at hj; rw [show o + j = o + j / 4 * 4 by omega, c0]; exact hj
  · rw [e, f1] at hj; rw [show o + j = o + j / 4 * 4 + 1 by omega, c1]; exact hj
  · rw [e, f2] at hj; rw [show o + j = o + j / 4 * 4 + 2 by omega, c2]; exact hj
  · rw [e, f3] at hj; rw [show o + j = o + j / 4 * 4 + 3 by omega, c3]; exact hj
theorem flat_ones (l : List Rc) : ∀ u ∈ flat l, u.oneCell' = true := by
  induction l with
  | nil => intro u hu; cases hu
  | cons r t ih =>
    intro u hu
    have hu' : u ∈ cel r ++ flat t := hu
    rcases List.mem_append.1 hu' with h | h
    · simp [cel] at h
      rcases h with rfl | rfl | rfl | rfl <;> rfl
    · exact ih u h
/-- No room behind no list. -/
def NoNil (v : Value) : Prop := ∀ c, v = .slice none 0 c → c = 0
theorem own_nil {w : World} {base : Nat} {e : TypeId} {size n : Nat} {v : Value} {xs : List Value} (h : w.ownsRow base e size v n xs) : NoNil v := by
  intro c hc
  obtain ⟨_, ⟨h, _⟩ | ⟨g, cap, cur, h, _⟩⟩ := h
  · rw [h] at hc; injection hc with _ _ hc; exact hc.symm
  · rw [h] at hc; injection hc with hc _ _; cases hc

theorem app_none {P : Program} {w : World} {ops : Array Oper} {rest : List Oper} {o : Oper} {a : Act} {Q : Exit → Act → World → Prop} (hgd : o.guard = none) (s x : Operand) (t : TypeId)
    (ho : o.op = .call { callee := .builtin .append, args := #[s, x], argTypes := #[t, t] })
    (base : Nat) (e : TypeId) (i : TypeInfo) (size : Nat) (ht : P.underlying t = some (.slice e)) (hi : P.info? e = some i)
    (v : Value) (n : Nat) (xs : List Value) (hs : a.eval s = v) (hown : w.ownsRow base e size v n xs) (hx : a.eval x = .slice none 0 0)
    (h : ∀ v' w', v' = v → w' = w → wpList P ops Q rest (a.put o.dst v') w') : wpList P ops Q (o :: rest) a w :=
  wpList_append_own_none hgd s x t ho base e i size ht hi v n xs hs hown hx (h v w rfl rfl)

def COut (A B : List Rc) (w : World) (hb : Nat) (va vb : Value) (k : Nat) (v : Value) (wr : World) : Prop :=
  k ≤ 2 ∧ wr.ownsRow w.heap.size 27 4 v (([A, B].take k).flatten).length (flat (([A, B].take k).flatten)) ∧ Below w.heap.size w wr ∧ Bk wr hb #[va, vb] 39

set_option maxRecDepth 10000 in
set_option maxHeartbeats 4000000 in
theorem concat_any (A B : List Rc) (va vb : Value) (hb : Nat) (w : World) (hva : LsR w va A) (hvb : LsR w vb B) (na : NoNil va) (nb : NoNil vb) (hbk : Bk w hb #[va, vb] 39) (hA : A.length ≤ 1024) (hB : B.length ≤ 1024) :
    Calls Try.prog 37 #[.slice (some ⟨hb, 0, none⟩) 2 2] w fun e w' => ∃ u, e = .returned u ∧ w'.ownsRow w.heap.size 27 4 u (A ++ B).length (flat (A ++ B)) ∧ Below w.heap.size w w' := by
  obtain ⟨i0, hi, hz0, hz1, hz2⟩ := info_parts info_rect
  have HI : Hid (Try.prog.info? 27 = some i0 ∧ i0.zero = some (.agg #[.int .i64 0, .int .i64 0, .int .i64 0, .int .i64 0]) ∧ i0.size = 4 ∧ i0.bytes = 32) := ⟨hi, hz0, hz1, hz2⟩
  obtain ⟨oa, ca, rfl, hca, hga⟩ := hva
  obtain ⟨ob, cb, rfl, hcb, hgb⟩ := hvb
  have HP : Hid (∀ k, k < 2 → ∃ (M : List Rc) (oM : Option Addr) (cM : Nat), #[Value.slice oa A.length ca, .slice ob B.length cb][k]? = some (.slice oM M.length cM) ∧ (0 < M.length → ∃ g o, oM = some ⟨g, o, none⟩ ∧ g < w.heap.size ∧ ∀ i (h : i < M.length), RcAt w g (o + i * 4) M[i]) ∧ NoNil (.slice oM M.length cM) ∧ M.length ≤ 1024 ∧ ([A, B].take (k + 1)).flatten = ([A, B].take k).flatten ++ M ∧ (([A, B].take k).flatten).length ≤ 1024) := by
    intro k hk
    rcases (show k = 0 ∨ k = 1 by omega) with rfl | rfl
    · exact ⟨A, oa, ca, rfl, hga, na, hA, by simp, by simp⟩
    · exact ⟨B, ob, cb, rfl, hgb, nb, hB, by simp, by simp; omega⟩
  have HK : Hid (Bk w hb #[.slice oa A.length ca, .slice ob B.length cb] 39) := hbk
  have HGr : Hid (∀ n : Nat, n ≤ 1000000 → Calls Try.prog 61 #[.slice none 0 0, .int .i64 n] w fun e w' => ∃ u, e = .returned u ∧ w'.ownsRow w.heap.size 27 4 u 0 [] ∧ Below w.heap.size w w') := fun n h => grow_any n w h
  clear hi hz0 hz1 hz2 hga hgb na nb hbk
  go_enter Try.func37, Try.ntmps37
  go_wp2_with fail
  go_loopw [3, 11] (fun s i wr => ∃ k : Nat, k ≤ 2 ∧ i = .int .i64 k ∧ s = .int .i64 ((([A, B].take k).flatten).length : Nat) ∧ wr = w) (fun _ i _ => 2 - (intOf i).toNat)
  case atStart => exact ⟨0, by omega, rfl, rfl, rfl⟩
  case round =>
    obtain ⟨k, hk, rfl, rfl, rfl⟩ := hrel
    by_cases hlt : k < 2
    · obtain ⟨M, oM, cM, hcell, _, _, hMl, hacc, hal⟩ := HP.out k hlt
      have hc : wr.cell? ⟨hb, k, none⟩ = some (.slice oM M.length cM) := by rw [HK.out.cell]; exact hcell
      have HN : Hid ((([A, B].take (k + 1)).flatten).length = (([A, B].take k).flatten).length + M.length) := by unfold Hid; rw [hacc, List.length_append]
      generalize (([A, B].take k).flatten).length = n at *
      clear hcell hacc
      have HRel : Hid (∃ k' : Nat, k' ≤ 2 ∧ Value.int .i64 ((k : Int) + 1) = .int .i64 k' ∧ Value.int .i64 ((n : Int) + (M.length : Int)) = .int .i64 ((([A, B].take k').flatten).length : Nat) ∧ True) := ⟨k + 1, by omega, by go_num, by rw [HN.out, Int.natCast_add], trivial⟩
      go_wp2
      go_roundw
      case rel => exact HRel.out
      case measure => simp [intOf]; omega
    · obtain rfl : k = 2 := by omega
      have e2 : ([A, B].take 2).flatten = A ++ B := by simp
      rw [e2]
      have hlen : (A ++ B).length ≤ 2048 := by rw [List.length_append]; omega
      have HG2 := HGr.out (A ++ B).length (by omega)
      have HG3 : Hid (Calls Try.prog 61 #[.slice none 0 0, .int .i64 ((A ++ B).length : Nat)] wr fun e w' => ∃ u, e = .returned u ∧ w'.ownsRow wr.heap.size 27 4 u 0 [] ∧ Below wr.heap.size wr w') := HG2
      clear HG2 HGr
      obtain ⟨n, hnn⟩ : ∃ n, n = (A ++ B).length := ⟨_, rfl⟩
      rw [← hnn] at HG3 hlen ⊢
      clear hnn
      go_wp2_with fail
      refine HG3.out.mono ?_
      rintro e w1 ⟨u1, rfl, hu1, hb1⟩
      have HC0 : Hid (COut A B wr hb (.slice oa A.length ca) (.slice ob B.length cb) 0 u1 w1) := ⟨by omega, hu1, hb1, HK.out.below hb1⟩
      clear hu1 hb1 HG3
      go_wp2_with fail
      obtain ⟨ww, hww⟩ : ∃ ww : World, ww = wr := ⟨_, rfl⟩
      rw [← hww] at HC0
      have HPw : Hid (∀ k, k < 2 → ∃ (M : List Rc) (oM : Option Addr) (cM : Nat), #[Value.slice oa A.length ca, .slice ob B.length cb][k]? = some (.slice oM M.length cM) ∧ (0 < M.length → ∃ g o, oM = some ⟨g, o, none⟩ ∧ g < ww.heap.size ∧ ∀ i (h : i < M.length), RcAt ww g (o + i * 4) M[i]) ∧ NoNil (.slice oM M.length cM) ∧ M.length ≤ 1024 ∧ ([A, B].take (k + 1)).flatten = ([A, B].take k).flatten ++ M ∧ (([A, B].take k).flatten).length ≤ 1024) := by unfold Hid; rw [hww]; exact HP.out
      have Hww : Hid (ww = wr) := hww
      clear hww
      go_loopw [6, 27] (fun v i wq => ∃ k : Nat, i = .int .i64 k ∧ COut A B ww hb (.slice oa A.length ca) (.slice ob B.length cb) k v wq) (fun _ i _ => 2 - (intOf i).toNat)
      case atStart => exact ⟨0, rfl, HC0.out⟩
      case round =>
        obtain ⟨k, rfl, hI⟩ := hrel
        obtain ⟨hk2, hown, hBr, hbk⟩ := hI
        by_cases hlt : k < 2
        · obtain ⟨M, oM, cM, hcell, hM, hMn, hMl, hacc, hal⟩ := HPw.out k hlt
          have hc : wr.cell? ⟨hb, k, none⟩ = some (.slice oM M.length cM) := by rw [hbk.cell]; exact hcell
          obtain ⟨acc, hac⟩ : ∃ acc, acc = ([A, B].take k).flatten := ⟨_, rfl⟩
          rw [← hac] at hown hacc hal
          have HA : Hid (([A, B].take (k + 1)).flatten = acc ++ M) := hacc
          have HO : Hid (wr.ownsRow ww.heap.size 27 4 u6 acc.length (flat acc) ∧ Below ww.heap.size ww wr ∧ Bk wr hb #[.slice oa A.length ca, .slice ob B.length cb] 39) := ⟨hown, hBr, hbk⟩
          have hsz : ww.heap.size ≤ wr.heap.size := hBr.size
          obtain ⟨hi, hz0, hz1, hz2⟩ := HI.out
          cases oM with
          | none =>
            have hM0 : M = [] := by
              cases hMM : M with
              | nil => rfl
              | cons r t =>
                rw [hMM] at hM
                obtain ⟨g, o, h, _⟩ := hM (by simp)
                cases h
            subst hM0
            obtain rfl : cM = 0 := hMn cM rfl
            have HRel : Hid (∃ k' : Nat, Value.int .i64 ((k : Int) + 1) = .int .i64 k' ∧ COut A B ww hb (.slice oa A.length ca) (.slice ob B.length cb) k' u6 wr) := by
              refine ⟨k + 1, by go_num, by omega, ?_, hBr, hbk⟩
              rw [HA.out, List.append_nil]
              exact hown
            have HOw : Hid (wr.ownsRow ww.heap.size 27 4 u6 acc.length (flat acc)) := hown
            clear hown hBr hbk hac hacc hM hMn hcell HO
            go_wp2_with (at_builtin; refine app_none rfl _ _ 39 rfl ww.heap.size 27 i0 4 Try.underlying39 hi u6 acc.length (flat acc) rfl HOw.out rfl ?_)
            exact ⟨HRel.out, by simp [intOf]; omega⟩
          | some ad =>
            have HNw : Hid (∀ (j : Nat) (u : Value), (flat M)[j]? = some u → wr.cell? (ad.add j) = some u) := by
              intro j u hj
              by_cases hp : 0 < M.length
              · obtain ⟨g, o, h, hg, hat⟩ := hM hp
                injection h with h
                subst h
                exact lsr_src (fun i hi => (hat i hi).kept fun q => hBr.cell (p := ⟨g, q, none⟩) hg) j u hj
              · have : M = [] := List.eq_nil_of_length_eq_zero (by omega)
                rw [this] at hj
                cases hj
            have hc3 : Hid (acc.length + M.length ≤ maxLen) := by unfold Hid maxLen; omega
            have hc4 : Hid ((acc.length + M.length) * 32 ≤ 140737488355328) := by unfold Hid; omega
            have HOw : Hid (wr.ownsRow ww.heap.size 27 4 u6 acc.length (flat acc)) := hown
            have HFl : Hid ((flat M).length = M.length * 4) := flat_len M
            clear hown hBr hbk hac hacc hM hMn hcell
            go_wp2_with (at_builtin; refine wpList_append_own _ rfl _ _ 39 rfl ww.heap.size 27 i0 (.agg #[.int .i64 0, .int .i64 0, .int .i64 0, .int .i64 0]) 4 32 Try.underlying39 hi hz0 hz1 hz2 rfl (by decide) u6 acc.length (flat acc) rfl HOw.out ad M.length cM (flat M) rfl HFl.out HNw.out (flat_ones M) hc3.out hc4.out hsz ?_)
            intro v' w4 hown' hgrow hnil
            have HRel : Hid (∃ k' : Nat, Value.int .i64 ((k : Int) + 1) = .int .i64 k' ∧ COut A B ww hb (.slice oa A.length ca) (.slice ob B.length cb) k' v' w4) := by
              refine ⟨k + 1, by go_num, by omega, ?_, app_below HO.out.2.1 HO.out.1 (Nat.le_refl _) hgrow, HO.out.2.2.apart HO.out.1 (by decide) hgrow⟩
              rw [HA.out, List.length_append, flat_app]
              exact hown'
            clear hown' hgrow hnil hi hz0 hz1 hz2
            go_wp2
            go_roundw
            case rel => exact HRel.out
            case measure => simp [intOf]; omega
        · obtain rfl : k = 2 := by omega
          have e2 : ([A, B].take 2).flatten = A ++ B := by simp
          rw [e2] at hown
          have HF : Hid (wr.ownsRow ww.heap.size 27 4 u6 (A ++ B).length (flat (A ++ B)) ∧ Below ww.heap.size ww wr) := ⟨hown, hBr⟩
          rw [Hww.out] at HF
          clear hown hBr hbk
          go_wp2
          go_ret
          exact ⟨_, rfl, HF.out.1, HF.out.2⟩

end Go.Proofs.Ytbghjmkgicdnoaa

/-
  A list of rectangles that came in: its rectangles, written out.
-/
namespace Go.Proofs.Ytbghjmkgicdnoaa
open Go.ChangeShapes Go.WideShapes Go.ChangeAt Go.RowKit Go.Joins

theorem own : ownKnob Try.prog.godebug = none := by kernel_rfl
theorem laidOut : laidOutB Try.prog = true := by kernel_rfl
theorem cells_r : Try.prog.cellsOf 27 = 4 := by kernel_rfl
theorem cells_p : Try.prog.cellsOf 23 = 2 := by kernel_rfl
theorem cells_s : Try.prog.cellsOf 25 = 2 := by kernel_rfl
theorem cells_i : Try.prog.cellsOf 3 = 1 := by kernel_rfl

theorem i64_of {n : Int} (h : (Lit.int .i64 n).wf = true) : I64 n := by
  have := bounds_i64 h
  exact ⟨this.1, this.2⟩

set_option maxRecDepth 100000 in
theorem rect_cells {H : Type} {enc : TypeId × Value → H} {W : World} {b : Nat} {sp : Nat → Bool} {held : Bool} {fuel : Nat} {cs : List Value} {x : DataW H × List MemPlace} (h : DataW.trod enc Try.prog W b sp held fuel 27 cs = some x) :
    ∃ r : Rc, cs = [.int .i64 r.x, .int .i64 r.y, .int .i64 r.w, .int .i64 r.h] ∧ I64 r.x ∧ I64 r.y := by
  obtain ⟨y0, y1, n, _, hl, h0, h1⟩ := trod_struct2 Try.underlying27 h
  rw [cells_r] at hl
  match cs, hl with
  | [c0, c1, c2, c3], _ =>
    simp [cells_p, cells_s] at h0 h1
    obtain ⟨y00, y01, n0, _, _, h00, h01⟩ := trod_struct2 Try.underlying23 h0
    obtain ⟨y10, y11, n1, _, _, h10, h11⟩ := trod_struct2 Try.underlying25 h1
    simp [cells_i] at h00 h01 h10 h11
    obtain ⟨a0, e0, _, w0⟩ := DataW.trod_int Try.underlying3 h00
    obtain ⟨a1, e1, _, w1⟩ := DataW.trod_int Try.underlying3 h01
    obtain ⟨a2, e2, _, _⟩ := DataW.trod_int Try.underlying3 h10
    obtain ⟨a3, e3, _, _⟩ := DataW.trod_int Try.underlying3 h11
    simp at e0 e1 e2 e3
    subst e0 e1 e2 e3
    exact ⟨⟨a0, a1, a2, a3⟩, rfl, i64_of w0, i64_of w1⟩

theorem rects_of {W : World} {g o : Nat} : ∀ (n : Nat), (∀ i, i < n → ∃ r : Rc, RcAt W g (o + i * 4) r ∧ I64 r.x ∧ I64 r.y) → ∃ rs : List Rc, rs.length = n ∧ (∀ i (h : i < rs.length), RcAt W g (o + i * 4) rs[i]) ∧ ∀ r ∈ rs, I64 r.x ∧ I64 r.y
  | 0, _ => ⟨[], rfl, fun i h => absurd h (Nat.not_lt_zero i), fun r hr => by simp at hr⟩
  | n + 1, h => by
    obtain ⟨rs, hl, ha, hw⟩ := rects_of n fun i hi => h i (by omega)
    obtain ⟨r, hr, hz⟩ := h n (by omega)
    refine ⟨rs ++ [r], by simp [hl], fun i hi => ?_, fun x hx => ?_⟩
    · by_cases e : i < rs.length
      · rw [List.getElem_append_left e]; exact ha i e
      · have : i = n := by simp at hi; omega
        subst this
        subst hl
        rw [List.getElem_concat_length rfl]
        exact hr
    · rcases List.mem_append.1 hx with hx | hx
      · exact hw x hx
      · simp at hx; subst hx; exact hz

set_option maxRecDepth 100000 in
theorem open_rects {H : Type} {enc : TypeId × Value → H} {W : World} {base b : Nat} {sp : Nat → Bool} {held : Bool} {v : Value} {d : DataW H} {p : List MemPlace}
    (hv : Value.okWide Try.prog W .any base 39 v) (h : DataW.Trod enc Try.prog W b sp held 39 v d p) : ∃ rs : List Rc, LsR W v rs ∧ I64s rs ∧ NoNil v ∧ rs.length ≤ 9223372036854775807 := by
  obtain ⟨oa, len, cap, rfl⟩ := okWide_slice Try.underlying39 hv
  obtain ⟨fuel, hf⟩ := h
  rcases DataW.trod_slice Try.underlying39 hf with ⟨he, _⟩ | ⟨a, len', cap', el, rest, n, _, he, _, _, hlc, hcm, hel, hat, _, _⟩
  · simp [Value.cells] at he
    obtain ⟨rfl, rfl, rfl⟩ := he
    exact ⟨[], ⟨none, 0, rfl, Nat.le_refl _, fun h => by simp at h⟩, fun r hr => by simp at hr, fun c hc => by injection hc with _ _ h; exact h.symm, by simp⟩
  · simp [Value.cells] at he
    obtain ⟨rfl, rfl, rfl⟩ := he
    have hnn : NoNil (.slice (some a) len cap) := fun c hc => by injection hc with h1 _ _; cases h1
    rw [cells_r] at hat
    obtain ⟨g, o, s⟩ := a
    have key : ∀ i, i < len → ∃ r : Rc, (∀ j, j < 4 → W.cell? ((Addr.mk g o s).add (i * 4) |>.add j) = ([.int .i64 r.x, .int .i64 r.y, .int .i64 r.w, .int .i64 r.h] : List Value)[j]?) ∧ I64 r.x ∧ I64 r.y := by
      intro i hi
      have h1 := hat i hi
      obtain ⟨bb, hb⟩ : ∃ bb, el[i]? = some bb := ⟨el[i]'(by omega), List.getElem?_eq_getElem (by omega)⟩
      rw [hb] at h1
      obtain ⟨ce, hce, hte⟩ := Option.bind_eq_some_iff.1 h1
      obtain ⟨r, hr, hw⟩ := rect_cells hte
      obtain ⟨_, _, hcc⟩ := World.cells?_some hce
      exact ⟨r, fun j hj => by rw [hcc j hj, hr], hw⟩
    by_cases h0 : len = 0
    · subst h0
      exact ⟨[], ⟨_, cap, rfl, Nat.zero_le _, fun h => by simp at h⟩, fun r hr => by simp at hr, hnn, by simp⟩
    obtain rfl : s = none := by
      obtain ⟨r, hr, _⟩ := key 0 (by omega)
      have h00 := hr 0 (by omega)
      have : (Addr.add (Addr.add ⟨g, o, s⟩ (0 * 4)) 0) = ⟨g, o, s⟩ := by simp [Addr.add]
      rw [this] at h00
      exact Go.Proofs.cell_spot h00
    obtain ⟨rs, hl, ha, hw⟩ := rects_of (W := W) (g := g) (o := o) len fun i hi => by
      obtain ⟨r, hr, hz⟩ := key i hi
      have e := fun j hj => hr j hj
      simp only [Addr.add_lit] at e
      exact ⟨r, ⟨e 0 (by omega), e 1 (by omega), e 2 (by omega), e 3 (by omega)⟩, hz⟩
    subst hl
    have hg : g < W.heap.size := by
      have h1 := (ha 0 (by omega)).1
      rcases Nat.lt_or_ge g W.heap.size with h' | h'
      · exact h'
      · simp [World.cell?, Array.getElem?_eq_none h'] at h1
    exact ⟨rs, ⟨_, cap, rfl, hlc, fun _ => ⟨g, o, rfl, hg, ha⟩⟩, hw, hnn, by have : cap ≤ 9223372036854775807 := hcm; omega⟩

end Go.Proofs.Ytbghjmkgicdnoaa

/-
  Colours in plain numbers: laid over one another, mixed, how light they are.
-/
namespace Go.Proofs.Ytbghjmkgicdnoaa

structure Co where
  r : Int
  g : Int
  b : Int
  a : Int

def By (x : Int) : Prop := 0 ≤ x ∧ x ≤ 255
def Co.ok (c : Co) : Prop := By c.r ∧ By c.g ∧ By c.b ∧ By c.a

/-- The number between two that their weights make of them. -/
def shr (x y p q : Int) : Int := (p * x + q * y + (p + q) / 2) / (p + q)
def fro (a : Co) : Int := 255 * a.a
def beh (a b : Co) : Int := (255 - a.a) * b.a
def overC (a b : Co) : Co :=
  if a.a = 0 then b else ⟨shr a.r b.r (fro a) (beh a b), shr a.g b.g (fro a) (beh a b), shr a.b b.b (fro a) (beh a b), (fro a + beh a b + 127) / 255⟩
def mixC (a b : Co) (p : Int) : Co := ⟨shr a.r b.r (255 - p) p, shr a.g b.g (255 - p) p, shr a.b b.b (255 - p) p, shr a.a b.a (255 - p) p⟩
def blackC : Co := ⟨0, 0, 0, 255⟩
def onB (c : Co) : Co := overC c blackC
def lightI (c : Co) : Int := (2126 * (onB c).r + 7152 * (onB c).g + 722 * (onB c).b) * 20 / 51
def clearL (l m : Int) : Bool := decide (45 * (min l m + 50000) ≤ 10 * (max l m + 50000))
def clearB (a b : Co) : Bool := clearL (lightI (onB b)) (lightI (overC a (onB b)))

theorem shr_between {x y p q : Int} (hp : 0 ≤ p) (hq : 0 ≤ q) (h : 0 < p + q) : min x y ≤ shr x y p q ∧ shr x y p q ≤ max x y := by
  have a1 : p * min x y ≤ p * x := Int.mul_le_mul_of_nonneg_left (by omega) hp
  have a2 : q * min x y ≤ q * y := Int.mul_le_mul_of_nonneg_left (by omega) hq
  have b1 : p * x ≤ p * max x y := Int.mul_le_mul_of_nonneg_left (by omega) hp
  have b2 : q * y ≤ q * max x y := Int.mul_le_mul_of_nonneg_left (by omega) hq
  have e1 : min x y * (p + q) = p * min x y + q * min x y := by rw [Int.mul_comm, Int.add_mul]
  have e2 : (max x y + 1) * (p + q) = p * max x y + q * max x y + (p + q) := by rw [Int.add_mul, Int.mul_comm, Int.add_mul]; omega
  unfold shr
  constructor
  · exact Int.le_ediv_of_mul_le h (by omega)
  · exact Int.lt_add_one_iff.1 (Int.ediv_lt_of_lt_mul h (by omega))

theorem shr_swap (x y p q : Int) : shr x y p q = shr y x q p := by
  unfold shr
  rw [Int.add_comm p q, Int.add_comm (p * x) (q * y)]

theorem shr_left (x y : Int) {p : Int} (h : 0 < p) : shr x y p 0 = x := by
  unfold shr
  have e : (x + 1) * p = p * x + p := by rw [Int.add_mul, Int.mul_comm]; omega
  have e' : x * p = p * x := Int.mul_comm _ _
  have h1 : x ≤ (p * x + 0 * y + (p + 0) / 2) / (p + 0) := Int.le_ediv_of_mul_le (by omega) (by simp only [Int.add_zero, Int.zero_mul]; omega)
  have h2 : (p * x + 0 * y + (p + 0) / 2) / (p + 0) < x + 1 := Int.ediv_lt_of_lt_mul (by omega) (by simp only [Int.add_zero, Int.zero_mul]; omega)
  omega
theorem shr_right (x y : Int) {q : Int} (h : 0 < q) : shr x y 0 q = y := by rw [shr_swap]; exact shr_left y x h

theorem shr_by {x y p q : Int} (hx : By x) (hy : By y) (hp : 0 ≤ p) (hq : 0 ≤ q) (h : 0 < p + q) : By (shr x y p q) := by
  have := shr_between (x := x) (y := y) hp hq h
  unfold By at *
  omega

/-- The weights. -/
theorem wts {a b : Co} (ha : a.ok) (hb : b.ok) : 0 ≤ fro a ∧ fro a ≤ 65025 ∧ 0 ≤ beh a b ∧ beh a b ≤ 65025 ∧ fro a + beh a b ≤ 65025 := by
  obtain ⟨_, _, _, a1, a2⟩ := ha
  obtain ⟨_, _, _, b1, b2⟩ := hb
  have h1 : 0 ≤ (255 - a.a) * b.a := Int.mul_nonneg (by omega) (by omega)
  have h2 : (255 - a.a) * b.a ≤ (255 - a.a) * 255 := Int.mul_le_mul_of_nonneg_left b2 (by omega)
  unfold fro beh
  omega
theorem wts_pos {a b : Co} (ha : a.ok) (hb : b.ok) (h : a.a ≠ 0) : 0 < fro a + beh a b := by
  have := wts ha hb
  obtain ⟨_, _, _, a1, a2⟩ := ha
  unfold fro at *
  omega

theorem over_ok {a b : Co} (ha : a.ok) (hb : b.ok) : (overC a b).ok := by
  unfold overC
  split
  · exact hb
  · rename_i h
    obtain ⟨w1, w2, w3, w4, w5⟩ := wts ha hb
    have w6 := wts_pos ha hb h
    exact ⟨shr_by ha.1 hb.1 w1 w3 w6, shr_by ha.2.1 hb.2.1 w1 w3 w6, shr_by ha.2.2.1 hb.2.2.1 w1 w3 w6, by unfold By; dsimp only; omega⟩
theorem black_ok : blackC.ok := ⟨⟨by decide, by decide⟩, ⟨by decide, by decide⟩, ⟨by decide, by decide⟩, ⟨by decide, by decide⟩⟩
theorem onB_ok {c : Co} (h : c.ok) : (onB c).ok := over_ok h black_ok
theorem mix_ok {a b : Co} {p : Int} (ha : a.ok) (hb : b.ok) (hp : By p) : (mixC a b p).ok := by
  obtain ⟨p1, p2⟩ := hp
  have k : ∀ {x y}, By x → By y → By (shr x y (255 - p) p) := fun hx hy => shr_by hx hy (by omega) (by omega) (by omega)
  exact ⟨k ha.1 hb.1, k ha.2.1 hb.2.1, k ha.2.2.1 hb.2.2.1, k ha.2.2.2 hb.2.2.2⟩
theorem light_bd {c : Co} (h : c.ok) : 0 ≤ lightI c ∧ lightI c ≤ 1000000 := by
  obtain ⟨⟨h1, h2⟩, ⟨h3, h4⟩, ⟨h5, h6⟩, _⟩ := onB_ok h
  unfold lightI
  omega

theorem over_opaque {a : Co} (b : Co) (h : a.a = 255) : overC a b = a := by
  unfold overC fro beh
  rw [if_neg (by omega), h]
  simp only [Int.sub_self, Int.zero_mul]
  rw [shr_left _ _ (by decide), shr_left _ _ (by decide), shr_left _ _ (by decide)]
  cases a
  simp_all
theorem onB_opaque {a : Co} (h : a.a = 255) : onB a = a := over_opaque _ h
theorem mix_zero (a b : Co) : mixC a b 0 = a := by
  unfold mixC
  simp only [Int.sub_zero]
  rw [shr_left _ _ (by decide), shr_left _ _ (by decide), shr_left _ _ (by decide), shr_left _ _ (by decide)]
theorem mix_all (a b : Co) : mixC a b 255 = b := by
  unfold mixC
  simp only [Int.sub_self]
  rw [shr_right _ _ (by decide), shr_right _ _ (by decide), shr_right _ _ (by decide), shr_right _ _ (by decide)]
theorem mix_swap (a b : Co) (p : Int) : mixC b a (255 - p) = mixC a b p := by
  unfold mixC
  rw [show (255 : Int) - (255 - p) = p by omega, shr_swap b.r, shr_swap b.g, shr_swap b.b, shr_swap b.a]
theorem over_a {a b : Co} (ha : a.ok) (hb : b.ok) : max a.a b.a ≤ (overC a b).a ∧ (b.a = 255 → (overC a b).a = 255) := by
  unfold overC
  split
  · obtain ⟨_, _, _, _, _⟩ := hb
    constructor
    · omega
    · exact id
  · have w := wts ha hb
    obtain ⟨_, _, _, a1, a2⟩ := ha
    obtain ⟨_, _, _, b1, b2⟩ := hb
    have e : (255 - a.a) * b.a = 255 * b.a - a.a * b.a := by rw [Int.sub_mul]
    have h1 : a.a * b.a ≤ a.a * 255 := Int.mul_le_mul_of_nonneg_left b2 a1
    constructor
    · unfold fro beh at *; dsimp only; omega
    · intro hb5
      unfold fro beh at *; dsimp only
      rw [hb5] at *
      omega

end Go.Proofs.Ytbghjmkgicdnoaa

/-
  Drawing lists in plain words: strokes that may be, clips, where strokes show, what nobody sees, lists cut to a region.
-/
namespace Go.Proofs.Ytbghjmkgicdnoaa

/-- A stroke. -/
structure St where
  k : Int
  r : Rc
  c : Co
  b : Co
  t : ByteArray
  n : Int

def zEm (r : Rc) : Bool := emptyB r.x r.y r.w r.h
def zMe (a b : Rc) : Rc := meetR a.x a.y a.w a.h b.x b.y b.w b.h
def zHa (r : Rc) (px py : Int) : Bool := hasB r.x r.y r.w r.h px py
def zIn (a b : Rc) : Bool := inB a.x a.y a.w a.h b.x b.y b.w b.h
def zOv (a b : Rc) : Bool := overB a.x a.y a.w a.h b.x b.y b.w b.h
def zMa (r : Rc) : Bool := mayB r.x r.y r.w r.h
def zZr (r : Rc) : Bool := eqB r 0 0 0 0
def coE (c : Co) : Bool := (c.r == 0) && ((c.g == 0) && ((c.b == 0) && (c.a == 0)))

/-- What is wrong with a stroke. -/
def wroK (s : St) : Bool := (decide (s.k < 1) || decide (5 < s.k)) || ((decide (s.n < 0) || decide (1048576 < s.n)) || decide (65536 < s.t.size))
def wroF (s : St) : Bool := (!(s.k == 3) && (!(s.t.size == 0) || !coE s.b)) || (((s.k == 4 || s.k == 5) && !coE s.c) || (s.k == 5 && !zZr s.r))
def oneE (s : St) : Int := if (wroK s || wroF s) = true then 2 else if zMa s.r = true then 0 else 5
theorem oneE_cases (s : St) : oneE s = 0 ∨ oneE s = 2 ∨ oneE s = 5 := by
  unfold oneE
  split
  · exact .inr (.inl rfl)
  · split
    · exact .inl rfl
    · exact .inr (.inr rfl)
theorem oneE_zero {s : St} (h : oneE s = 0) : zMa s.r = true ∧ (s.k = 1 ∨ s.k = 2 ∨ s.k = 3 ∨ s.k = 4 ∨ s.k = 5) ∧ wroF s = false := by
  unfold oneE at h
  split at h
  · cases h
  · next h1 =>
    split at h
    · next h2 =>
      refine ⟨h2, ?_, ?_⟩
      · have h3 : wroK s = false := by
          cases e : wroK s
          · rfl
          · rw [e] at h1; simp at h1
        unfold wroK at h3
        simp at h3
        omega
      · cases e : wroF s
        · rfl
        · rw [e] at h1; simp at h1
    · cases h

/-- How many clips are open. -/
def opn (n : Nat) (s : St) : Nat := if s.k = 4 then n + 1 else if s.k = 5 then n - 1 else n
def clpE : Nat → List St → Int
  | n, [] => if 0 < n then 130 else 0
  | n, s :: l => if oneE s ≠ 0 then oneE s else if s.k = 5 ∧ n = 0 then 130 else clpE (opn n s) l
/-- What is wrong with a list. -/
def chkS (l : List St) : Int := if 16384 < l.length then 4 else clpE 0 l
theorem clpE_cons {n : Nat} {s : St} {l : List St} (h : clpE n (s :: l) = 0) : oneE s = 0 ∧ ¬ (s.k = 5 ∧ n = 0) ∧ clpE (opn n s) l = 0 := by
  unfold clpE at h
  split at h
  · next h1 => exact absurd h h1
  · next h1 =>
    split at h
    · cases h
    · next h2 => exact ⟨Decidable.not_not.1 h1, h2, h⟩
theorem clpE_mk {n : Nat} {s : St} {l : List St} (h1 : oneE s = 0) (h2 : ¬ (s.k = 5 ∧ n = 0)) (h3 : clpE (opn n s) l = 0) : clpE n (s :: l) = 0 := by
  unfold clpE
  rw [if_neg (by simp [h1]), if_neg h2, h3]
theorem chkS_zero {l : List St} (h : chkS l = 0) : l.length ≤ 16384 ∧ clpE 0 l = 0 := by
  unfold chkS at h
  split at h
  · cases h
  · next h1 => exact ⟨by omega, h⟩

/-- The rectangle in which a stroke shows, below clips (the innermost first). -/
def topR (cs : List Rc) (r : Rc) : Rc :=
  match cs with
  | [] => r
  | c :: _ => zMe r c
def shR (cs : List Rc) (s : St) : Rc := if zEm (topR cs s.r) = true then zr else topR cs s.r
def nxC (cs : List Rc) (s : St) : List Rc := if s.k = 4 then shR cs s :: cs else if s.k = 5 then cs.tail else cs
/-- Strokes, each with the rectangle in which it shows. -/
def ann : List Rc → List St → List (St × Rc)
  | _, [] => []
  | cs, s :: l => (s, shR cs s) :: ann (nxC cs s) l
def endC : List Rc → List St → List Rc
  | cs, [] => cs
  | cs, s :: l => endC (nxC cs s) l
theorem ann_app : ∀ (a b : List St) (cs : List Rc), ann cs (a ++ b) = ann cs a ++ ann (endC cs a) b
  | [], _, _ => rfl
  | s :: a, b, cs => by show _ :: ann (nxC cs s) (a ++ b) = _; rw [ann_app a b]; rfl
theorem endC_app : ∀ (a b : List St) (cs : List Rc), endC cs (a ++ b) = endC (endC cs a) b
  | [], _, _ => rfl
  | s :: a, b, cs => endC_app a b (nxC cs s)
theorem ann_len : ∀ (l : List St) (cs : List Rc), (ann cs l).length = l.length
  | [], _ => rfl
  | s :: l, cs => by show (ann (nxC cs s) l).length + 1 = _; rw [ann_len l]; rfl
theorem ann_fst : ∀ (l : List St) (cs : List Rc), (ann cs l).map Prod.fst = l
  | [], _ => rfl
  | s :: l, cs => by show s :: (ann (nxC cs s) l).map Prod.fst = _; rw [ann_fst l]
theorem nxC_len (cs : List Rc) (s : St) : (nxC cs s).length = opn cs.length s := by
  unfold nxC opn
  split
  · rfl
  · split
    · exact List.length_tail
    · rfl

def drw (s : St) : Bool := decide (s.k < 4)
/-- What is flat of a list. -/
def flaL (l : List St) : List (St × Rc) := (ann [] l).filter fun p => drw p.1
def sidR (q : Rc) : List Rc := [btw q.x q.y (q.x + q.w) (q.y + 1), btw q.x q.y (q.x + 1) (q.y + q.h), btw (q.x + q.w - 1) q.y (q.x + q.w) (q.y + q.h), btw q.x (q.y + q.h - 1) (q.x + q.w) (q.y + q.h)]
def noP (s : St) (r : Rc) : Bool := zEm r || ((s.k == 3 && s.t.size == 0) || ((!(s.k == 3) && s.c.a == 0) || !drw s))
/-- The places at which a stroke shows. -/
def plc (s : St) (r : Rc) : List Rc := if noP s r = true then [] else if s.k = 2 then ((sidR s.r).map (fun q => zMe q r)).filter (fun q => !zEm q) else [r]
def plA (l : List (St × Rc)) : List Rc := l.flatMap fun p => plc p.1 p.2
def opq (s : St) : Bool := s.k == 1 && s.c.a == 255
def hidB (p : St × Rc) (t : List (St × Rc)) : Bool := drw p.1 && ((plc p.1 p.2).isEmpty || t.any fun q => opq q.1 && (plc p.1 p.2).all fun a => zIn a q.2)
def kepN : List (St × Rc) → List (St × Rc)
  | [] => []
  | p :: t => if hidB p t = true then kepN t else p :: kepN t
/-- Without idle pairs. -/
def bz {α : Type} (kd : α → Int) : List α → List α → List α
  | o, [] => o.reverse
  | [], s :: l => bz kd [s] l
  | c :: o, s :: l => if kd s = 5 ∧ kd c = 4 then bz kd o l else bz kd (s :: c :: o) l
def busy (l : List St) : List St := bz St.k [] l
def busA (l : List (St × Rc)) : List (St × Rc) := bz (fun p => p.1.k) [] l
def norL (l : List St) : List St := busy ((kepN (ann [] l)).map Prod.fst)
def cliS (q : Rc) : St := ⟨4, q, ⟨0, 0, 0, 0⟩, ⟨0, 0, 0, 0⟩, ⟨#[]⟩, 0⟩
def opeS : St := ⟨5, zr, ⟨0, 0, 0, 0⟩, ⟨0, 0, 0, 0⟩, ⟨#[]⟩, 0⟩
def witP (q : Rc) (p : St × Rc) : Bool := !drw p.1 || (plc p.1 p.2).any fun a => zOv a q
def grpL (A : List (St × Rc)) (q : Rc) : List St := busy (cliS q :: ((A.filter (witP q)).map Prod.fst ++ [opeS]))
def witA (l : List St) (F : List Rc) : List St := F.flatMap (grpL (ann [] l))

/-- Idle pairs left out, one by one. -/
inductive Idl {α : Type} (kd : α → Int) : List α → List α → Prop
  | refl (l : List α) : Idl kd l l
  | step (a b m : List α) (c o : α) : kd c = 4 → kd o = 5 → Idl kd (a ++ b) m → Idl kd (a ++ c :: o :: b) m
theorem bz_idl {α : Type} (kd : α → Int) : ∀ (l o : List α), Idl kd (o.reverse ++ l) (bz kd o l)
  | [], o => by
    cases o with
    | nil => exact .refl _
    | cons c o => unfold bz; rw [List.append_nil]; exact .refl _
  | s :: l, [] => by
    unfold bz
    exact bz_idl kd l [s]
  | s :: l, c :: o => by
    unfold bz
    split
    · next h =>
      rw [List.reverse_cons, List.append_assoc]
      exact .step _ _ _ c s h.2 h.1 (bz_idl kd l o)
    · have := bz_idl kd l (s :: c :: o)
      rwa [List.reverse_cons, List.append_assoc] at this
theorem bz_pair {α : Type} (kd : α → Int) {c s : α} (hc : kd c = 4) (hs : kd s = 5) (b : List α) : ∀ (a o : List α), bz kd o (a ++ c :: s :: b) = bz kd o (a ++ b)
  | [], [] => by
    show bz kd [] (c :: s :: b) = bz kd [] b
    rw [bz, bz, if_pos ⟨hs, hc⟩]
  | [], d :: o => by
    show bz kd (d :: o) (c :: s :: b) = bz kd (d :: o) b
    rw [bz, if_neg (by rw [hc]; intro h; cases h.1), bz, if_pos ⟨hs, hc⟩]
  | x :: a, [] => by
    show bz kd [] (x :: (a ++ c :: s :: b)) = bz kd [] (x :: (a ++ b))
    rw [bz, bz, bz_pair kd hc hs b a]
  | x :: a, d :: o => by
    show bz kd (d :: o) (x :: (a ++ c :: s :: b)) = bz kd (d :: o) (x :: (a ++ b))
    rw [bz, bz, bz_pair kd hc hs b a, bz_pair kd hc hs b a]
theorem idl_bz {α : Type} {kd : α → Int} {l m : List α} (h : Idl kd l m) : bz kd [] l = bz kd [] m := by
  induction h with
  | refl => rfl
  | step a b m c o hc ho _ ih => rw [bz_pair kd hc ho b a, ih]
/-- No idle pair. -/
def nid {α : Type} (kd : α → Int) : List α → Prop
  | [] => True
  | [_] => True
  | a :: b :: l => ¬ (kd a = 4 ∧ kd b = 5) ∧ nid kd (b :: l)
def nidR {α : Type} (kd : α → Int) : List α → Prop
  | [] => True
  | [_] => True
  | a :: b :: l => ¬ (kd a = 5 ∧ kd b = 4) ∧ nidR kd (b :: l)
theorem nid_snoc {α : Type} (kd : α → Int) (x : α) : ∀ (l : List α) (y : α), nid kd (l ++ [y]) → ¬ (kd y = 4 ∧ kd x = 5) → nid kd (l ++ [y, x])
  | [], _, _, h => ⟨h, trivial⟩
  | [_], _, h1, h2 => ⟨h1.1, h2, trivial⟩
  | _ :: b :: l, y, h1, h2 => ⟨h1.1, nid_snoc kd x (b :: l) y h1.2 h2⟩
theorem nidR_rev {α : Type} (kd : α → Int) : ∀ l : List α, nidR kd l → nid kd l.reverse
  | [], _ => trivial
  | [_], _ => trivial
  | a :: b :: l, h => by
    have ih := nidR_rev kd (b :: l) h.2
    rw [List.reverse_cons] at ih
    rw [List.reverse_cons, List.reverse_cons, List.append_assoc]
    exact nid_snoc kd a l.reverse b ih fun e => h.1 ⟨e.2, e.1⟩
theorem nidR_tail {α : Type} {kd : α → Int} {a : α} : ∀ {l : List α}, nidR kd (a :: l) → nidR kd l
  | [], _ => trivial
  | _ :: _, h => h.2
theorem bz_nid {α : Type} (kd : α → Int) : ∀ (l o : List α), nidR kd o → nid kd (bz kd o l)
  | [], o, h => by
    have := nidR_rev kd o h
    cases o <;> exact this
  | s :: l, [], _ => by
    unfold bz
    exact bz_nid kd l [s] trivial
  | s :: l, c :: o, h => by
    unfold bz
    split
    · exact bz_nid kd l o (nidR_tail h)
    · next h1 => exact bz_nid kd l (s :: c :: o) ⟨h1, h⟩
theorem nid_app {α : Type} {kd : α → Int} {c s : α} {b : List α} (hc : kd c = 4) (hs : kd s = 5) : ∀ (a : List α), ¬ nid kd (a ++ c :: s :: b)
  | [], h => h.1 ⟨hc, hs⟩
  | [_], h => h.2.1 ⟨hc, hs⟩
  | _ :: y :: a, h => nid_app hc hs (y :: a) h.2
theorem idl_nid {α : Type} {kd : α → Int} {l m : List α} (h : Idl kd l m) (hn : nid kd l) : m = l := by
  cases h with
  | refl => rfl
  | step a b _ c o hc ho _ => exact absurd hn (nid_app hc ho a)
/-- A list without idle pairs is what is left of itself. -/
theorem bz_same {α : Type} (kd : α → Int) {l : List α} (h : nid kd l) : bz kd [] l = l := idl_nid (bz_idl kd l []) h
/-- Whatever pairs are left out, in whatever order: where none is left, it is this. -/
theorem idl_unique {α : Type} {kd : α → Int} {l m : List α} (h : Idl kd l m) (hn : nid kd m) : m = bz kd [] l := by
  rw [idl_bz h, bz_same kd hn]
theorem bz_map {α β : Type} (kd : α → Int) (ke : β → Int) (f : α → β) (hf : ∀ x, ke (f x) = kd x) : ∀ (l o : List α), (bz kd o l).map f = bz ke (o.map f) (l.map f)
  | [], o => by cases o <;> simp [bz]
  | s :: l, [] => by
    show (bz kd [s] l).map f = bz ke [f s] (l.map f)
    exact bz_map kd ke f hf l [s]
  | s :: l, c :: o => by
    show (bz kd (c :: o) (s :: l)).map f = bz ke (f c :: o.map f) (f s :: l.map f)
    rw [bz, bz, hf, hf]
    split
    · exact bz_map kd ke f hf l o
    · exact bz_map kd ke f hf l (s :: c :: o)
theorem idl_sub {α : Type} {kd : α → Int} {l m : List α} (h : Idl kd l m) : m.Sublist l := by
  induction h with
  | refl l => exact List.Sublist.refl l
  | step a b m c o _ _ _ ih =>
    refine ih.trans ?_
    exact List.Sublist.append (List.Sublist.refl a) (((List.Sublist.refl b).cons o).cons c)
theorem busy_len (l : List St) : (busy l).length ≤ l.length := (idl_sub (bz_idl St.k l [])).length_le

/-- A clip that is closed at once changes nothing behind it. -/
theorem nxC_pair (cs : List Rc) {c o : St} (hc : c.k = 4) (ho : o.k = 5) : nxC (nxC cs c) o = cs := by
  unfold nxC
  rw [if_pos hc, if_neg (by omega), if_pos ho]
  rfl
theorem endC_pair (cs : List Rc) (a b : List St) {c o : St} (hc : c.k = 4) (ho : o.k = 5) : endC cs (a ++ c :: o :: b) = endC cs (a ++ b) := by
  rw [endC_app, endC_app]
  show endC (nxC (nxC (endC cs a) c) o) b = _
  rw [nxC_pair _ hc ho]
theorem ann_pair (cs : List Rc) (a b : List St) {c o : St} (hc : c.k = 4) (ho : o.k = 5) : ann cs (a ++ c :: o :: b) = ann cs a ++ (c, shR (endC cs a) c) :: (o, shR (nxC (endC cs a) c) o) :: ann (endC cs a) b := by
  rw [ann_app]
  show _ ++ _ :: _ :: ann (nxC (nxC (endC cs a) c) o) b = _
  rw [nxC_pair _ hc ho]
theorem clpE_pair {c o : St} (hc : c.k = 4) (ho : o.k = 5) (b : List St) : ∀ (a : List St) (n : Nat), clpE n (a ++ c :: o :: b) = 0 → clpE n (a ++ b) = 0
  | [], n, h => by
    obtain ⟨_, _, h⟩ := clpE_cons (show clpE n (c :: o :: b) = 0 from h)
    obtain ⟨_, _, h⟩ := clpE_cons h
    have e : opn (opn n c) o = n := by
      unfold opn
      rw [if_pos hc, if_neg (by omega), if_pos ho]
      rfl
    rw [e] at h
    exact h
  | s :: a, n, h => by
    obtain ⟨h1, h2, h3⟩ := clpE_cons (show clpE n (s :: (a ++ c :: o :: b)) = 0 from h)
    exact clpE_mk h1 h2 (clpE_pair hc ho b a _ h3)
theorem idl_clp {l m : List St} (h : Idl St.k l m) (n : Nat) (hc : clpE n l = 0) : clpE n m = 0 := by
  induction h with
  | refl => exact hc
  | step a b m c o h1 h2 _ ih => exact ih (clpE_pair h1 h2 b a n hc)
/-- Left out of a list, pairs are left out of it with its rectangles. -/
theorem idl_ann (cs : List Rc) {l m : List St} (h : Idl St.k l m) : Idl (fun p : St × Rc => p.1.k) (ann cs l) (ann cs m) := by
  induction h with
  | refl => exact .refl _
  | step a b m c o h1 h2 _ ih =>
    rw [ann_pair cs a b h1 h2]
    rw [ann_app] at ih
    exact .step _ _ _ (c, _) (o, _) h1 h2 ih
theorem ann_busy (cs : List Rc) (l : List St) : ann cs (busy l) = busA (ann cs l) := by
  have h := idl_ann cs (bz_idl St.k l [])
  refine idl_unique h ?_
  have h1 := bz_nid St.k l [] trivial
  have h2 : ∀ (x : List St) (cs : List Rc), nid St.k x → nid (fun p : St × Rc => p.1.k) (ann cs x) := by
    intro x
    induction x with
    | nil => intro _ _; trivial
    | cons s x ih =>
      intro cs h
      cases x with
      | nil => trivial
      | cons q x => exact ⟨h.1, ih _ h.2⟩
  exact h2 _ cs h1

/-- Without some strokes that draw. -/
inductive Dro : List (St × Rc) → List (St × Rc) → Prop
  | nil : Dro [] []
  | keep (p : St × Rc) {l m : List (St × Rc)} : Dro l m → Dro (p :: l) (p :: m)
  | drop (p : St × Rc) {l m : List (St × Rc)} : drw p.1 = true → Dro l m → Dro (p :: l) m
theorem nxC_drw (cs : List Rc) {s : St} (h : drw s = true) : nxC cs s = cs := by
  unfold drw at h
  have h := of_decide_eq_true h
  unfold nxC
  rw [if_neg (by omega), if_neg (by omega)]
theorem opn_drw (n : Nat) {s : St} (h : drw s = true) : opn n s = n := by
  unfold drw at h
  have h := of_decide_eq_true h
  unfold opn
  rw [if_neg (by omega), if_neg (by omega)]
theorem dro_ann : ∀ (l : List St) (cs : List Rc) {m : List (St × Rc)}, Dro (ann cs l) m → ann cs (m.map Prod.fst) = m
  | [], _, _, h => by cases h; rfl
  | s :: l, cs, m, h => by
    change Dro ((s, shR cs s) :: ann (nxC cs s) l) m at h
    cases h with
    | keep p h' => show (s, shR cs s) :: ann (nxC cs s) (List.map Prod.fst _) = _; rw [dro_ann l _ h']
    | drop p hd h' =>
      rw [nxC_drw cs hd] at h'
      exact dro_ann l _ h'
theorem dro_clp : ∀ (l : List St) (cs : List Rc) (n : Nat) {m : List (St × Rc)}, Dro (ann cs l) m → clpE n l = 0 → clpE n (m.map Prod.fst) = 0
  | [], _, _, _, h, hc => by cases h; exact hc
  | s :: l, cs, n, m, h, hc => by
    obtain ⟨h1, h2, h3⟩ := clpE_cons hc
    change Dro ((s, shR cs s) :: ann (nxC cs s) l) m at h
    cases h with
    | keep p h' => exact clpE_mk h1 h2 (dro_clp l _ _ h' h3)
    | drop p hd h' =>
      rw [opn_drw n hd] at h3
      exact dro_clp l _ _ h' h3
theorem dro_endC : ∀ (l : List St) (cs : List Rc) {m : List (St × Rc)}, Dro (ann cs l) m → endC cs (m.map Prod.fst) = endC cs l
  | [], _, _, h => by cases h; rfl
  | s :: l, cs, m, h => by
    change Dro ((s, shR cs s) :: ann (nxC cs s) l) m at h
    cases h with
    | keep p h' => exact dro_endC l _ h'
    | drop p hd h' =>
      have e : nxC cs s = cs := nxC_drw cs hd
      rw [e] at h'
      show _ = endC (nxC cs s) l
      rw [e]
      exact dro_endC l _ h'
theorem dro_kepN : ∀ l : List (St × Rc), Dro l (kepN l)
  | [] => .nil
  | p :: t => by
    unfold kepN
    split
    · next h =>
      refine .drop p ?_ (dro_kepN t)
      unfold hidB at h
      exact (Bool.and_eq_true_iff.1 h).1
    · exact .keep p (dro_kepN t)
theorem dro_wit (q : Rc) : ∀ l : List (St × Rc), Dro l (l.filter (witP q))
  | [] => .nil
  | p :: t => by
    rw [List.filter_cons]
    split
    · exact .keep p (dro_wit q t)
    · next h =>
      refine .drop p ?_ (dro_wit q t)
      unfold witP at h
      cases e : drw p.1
      · rw [e] at h; simp at h
      · rfl
theorem dro_len {l m : List (St × Rc)} (h : Dro l m) : m.length ≤ l.length := by
  induction h with
  | nil => exact Nat.le_refl _
  | keep p _ ih => simp; omega
  | drop p _ _ ih => simp; omega
theorem dro_sub {l m : List (St × Rc)} (h : Dro l m) : m.Sublist l := by
  induction h with
  | nil => exact List.Sublist.refl _
  | keep p _ ih => exact ih.cons_cons p
  | drop p _ _ ih => exact ih.cons p

/-- Norm with its rectangles. -/
theorem ann_norL (l : List St) : ann [] (norL l) = busA (kepN (ann [] l)) := by
  unfold norL
  rw [ann_busy, dro_ann l [] (dro_kepN _)]
theorem norL_len (l : List St) : (norL l).length ≤ l.length := by
  have h1 := busy_len ((kepN (ann [] l)).map Prod.fst)
  have h2 := dro_len (dro_kepN (ann [] l))
  rw [ann_len] at h2
  rw [List.length_map] at h1
  unfold norL
  omega
theorem norL_clp {l : List St} (h : clpE 0 l = 0) : clpE 0 (norL l) = 0 := idl_clp (bz_idl St.k _ []) 0 (dro_clp l [] 0 (dro_kepN _) h)
theorem norL_chk {l : List St} (h : chkS l = 0) : chkS (norL l) = 0 := by
  obtain ⟨h1, h2⟩ := chkS_zero h
  have := norL_len l
  unfold chkS
  rw [if_neg (by omega)]
  exact norL_clp h2

/-- Nothing in it is hidden. -/
def okN : List (St × Rc) → Prop
  | [] => True
  | p :: t => hidB p t = false ∧ okN t
theorem hidB_sub {p : St × Rc} {t u : List (St × Rc)} (h : u.Sublist t) (hp : hidB p t = false) : hidB p u = false := by
  unfold hidB at hp ⊢
  cases hd : drw p.1
  · rfl
  · rw [hd] at hp
    rw [Bool.true_and] at hp ⊢
    rw [Bool.or_eq_false_iff] at hp ⊢
    refine ⟨hp.1, ?_⟩
    rw [List.any_eq_false] at hp ⊢
    exact fun x hx => hp.2 x (h.subset hx)
theorem okN_sub {l m : List (St × Rc)} (h : m.Sublist l) : okN l → okN m := by
  induction h with
  | slnil => exact fun _ => trivial
  | cons p _ ih => exact fun h => ih h.2
  | cons_cons p h ih => exact fun k => ⟨hidB_sub h k.1, ih k.2⟩
theorem okN_kepN : ∀ l : List (St × Rc), okN (kepN l)
  | [] => trivial
  | p :: t => by
    unfold kepN
    split
    · exact okN_kepN t
    · next h => exact ⟨hidB_sub (dro_sub (dro_kepN t)) (Bool.eq_false_iff.2 h), okN_kepN t⟩
theorem kepN_same : ∀ l : List (St × Rc), okN l → kepN l = l
  | [], _ => rfl
  | p :: t, h => by
    unfold kepN
    rw [h.1, kepN_same t h.2]
    rfl
/-- Norm of Norm is Norm. -/
theorem norL_norL (l : List St) : norL (norL l) = norL l := by
  have h1 := ann_norL l
  have h2 : okN (ann [] (norL l)) := by
    rw [h1]
    exact okN_sub (idl_sub (bz_idl _ _ [])) (okN_kepN _)
  show busy ((kepN (ann [] (norL l))).map Prod.fst) = norL l
  rw [kepN_same _ h2, ann_fst]
  exact bz_same St.k (bz_nid St.k _ [] trivial)

end Go.Proofs.Ytbghjmkgicdnoaa
