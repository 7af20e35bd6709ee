/-
  Texts of this claim, one behind the other: what each is about stands ahead of it.
-/
import Derived.Test.YtfjbnejmcanamaaGreatDoorK34
import Derived.Test.YtfjbnejmcanamaaGreatDoorK35
import Derived.Test.YtfjbnejmcanamaaGreatDoorK17
import Derived.Test.YtfjbnejmcanamaaGreatDoorK3
import Derived.Test.YtfjbnejmcanamaaGreatDoorK1
import Derived.Test.YtfjbnejmcanamaaGreatDoorK2
import Derived.ProofKit
import Derived.OpenShut
import Derived.Lib.SmallJoins
import Derived.Lib.LaidU8
import Derived.Test.YtfjbnejmcanamaaGreatDoorK26
import Derived.Test.YtfjbnejmcanamaaGreatDoorRows
import Derived.Test.YtfjbnejmcanamaaGreatDoorK27
import Derived.PinnedBridge
import Derived.Lib.LaidU8T
import Derived.Lib.LaidTab
import Derived.MakeChecks
import Derived.Test.YtfjbnejmcanamaaGreatDoorK16
import Derived.LaidHandle
import Derived.LaidLaws
import Derived.Stop.LaidErr
import Derived.ChangeMade
import Derived.RowKitTokens
import Derived.Lay
import Derived.Deep.DeepLaidRun
/-
  What package list calls of Go's library: slices.Grow, Concat, Clone of strokes.
-/
namespace Go.Proofs.YtfjbnejmcanamaaGreatDoor
open Go.RowKit Go.Shelf

theorem nil_ne (ad : Addr) (n cap : Nat) (W : World) : (binOp .eql 22 (.slice (some ad) n cap) (.slice none 0 0)).run Tryz.prog W = .ok (.bool false) W := by kernel_rfl
theorem nil_eq (W : World) : (binOp .eql 22 (.slice none 0 0) (.slice none 0 0)).run Tryz.prog W = .ok (.bool true) W := by kernel_rfl

/-- A slice of slices, each of which holds api.Stroke. -/
def RowsS (w : World) (v : Value) (Ls : List (List St)) : Prop := ∃ oa cap, v = .slice oa Ls.length cap ∧ Ls.length ≤ cap ∧ (0 < Ls.length → ∃ hb ho, oa = some ⟨hb, ho, none⟩ ∧ hb < w.heap.size ∧ ∀ k (h : k < Ls.length), ∃ u, w.cell? ⟨hb, ho + k, none⟩ = some u ∧ LsS w u Ls[k] ∧ NoNil u)
theorem RowsS.below {w w' : World} {v : Value} {Ls : List (List St)} (h : RowsS w v Ls) (hb : Below w.heap.size w w') : RowsS w' v Ls := by
  obtain ⟨oa, cap, e, hc, hg⟩ := h
  refine ⟨oa, cap, e, hc, fun hp => ?_⟩
  obtain ⟨g, o, e1, g1, g2⟩ := hg hp
  refine ⟨g, o, e1, Nat.lt_of_lt_of_le g1 hb.size, fun i hi => ?_⟩
  obtain ⟨u, c, hl, hn⟩ := g2 i hi
  exact ⟨u, (hb.cell (p := ⟨g, o + i, none⟩) g1).trans c, hl.below hb, hn⟩

end Go.Proofs.YtfjbnejmcanamaaGreatDoor

/-
  Contracts of package list: Same, Join.
-/
namespace Go.Proofs.YtfjbnejmcanamaaGreatDoor
open Go.RowKit

set_option maxRecDepth 20000 in
set_option maxHeartbeats 4000000 in
theorem equalZ_any (a b : List St) (va vb : Value) (w : World) (ha : LsS w va a) (hb : LsS w vb b) (hl : a.length < 1000000) :
    Calls Tryz.prog 18 #[va, vb] w fun e w' => e = .returned (.bool (samZ a b)) ∧ Below w.heap.size w w' := by
  obtain ⟨oa, ca, rfl, hca, hga⟩ := ha
  obtain ⟨ob, cb, rfl, hcb, hgb⟩ := hb
  by_cases hn : a.length = b.length
  case neg =>
    have hn' : ((a.length : Int) == (b.length : Int)) = false := beq_eq_false_iff_ne.2 (by omega)
    rw [samZ_no (fun h => hn (by rw [h]))]
    clear hga hgb hn
    go_enter Tryz.func18, Tryz.ntmps18
    go_wp2
    go_ret
    exact ⟨rfl, Below.refl _ _⟩
  case pos =>
    have HA : Hid (0 < a.length → ∃ g o, oa = some ⟨g, o, none⟩ ∧ g < w.heap.size ∧ ∀ i (h : i < a.length), StAt w g (o + i * 15) a[i]) := hga
    have HB : Hid (0 < b.length → ∃ g o, ob = some ⟨g, o, none⟩ ∧ g < w.heap.size ∧ ∀ i (h : i < b.length), StAt w g (o + i * 15) b[i]) := hgb
    obtain ⟨R, HR⟩ : ∃ R, Hid (samZ a b = R) := ⟨_, rfl⟩
    rw [HR.out]
    have HN : Hid (a.length = b.length) := hn
    obtain ⟨m, hm⟩ : ∃ m, m = b.length := ⟨_, rfl⟩
    have hm2 : a.length = m := by rw [hm]; exact hn
    have HM : Hid (b.length = m ∧ a.length = m) := ⟨hm.symm, hm2⟩
    rw [← hm]
    rw [hm2]
    rw [hm2] at hl
    clear hga hgb hn hm hm2 hca hcb
    go_enter Tryz.func18, Tryz.ntmps18
    go_wp2_with fail
    go_loopw [13] (fun i wr => ∃ k : Nat, k ≤ m ∧ i = .int .i64 k ∧ Hid ((∀ j, j < k → a[j]? = b[j]?) ∧ Below w.heap.size w wr)) (fun i _ => m - (intOf i).toNat)
    case atStart => exact ⟨0, Nat.zero_le _, rfl, fun j hj => absurd hj (Nat.not_lt_zero _), Below.refl _ _⟩
    case round =>
      obtain ⟨k, hk, rfl, HK⟩ := hrel
      by_cases hlt : k < m
      · have ik : (k : Int) < m := by omega
        have hla : k < a.length := by rw [HM.out.2]; exact hlt
        have hlb : k < b.length := by rw [HM.out.1]; exact hlt
        obtain ⟨g, o, rfl, hg, hat⟩ := HA.out (by omega)
        obtain ⟨g', o', rfl, hg', hat'⟩ := HB.out (by omega)
        have hx := (hat k hla).kept (w' := wr) fun j => HK.out.2.cell (p := ⟨g, j, none⟩) hg
        have hy := (hat' k hlb).kept (w' := wr) fun j => HK.out.2.cell (p := ⟨g', j, none⟩) hg'
        have HE : Hid (a[k]? = some a[k] ∧ b[k]? = some b[k]) := ⟨List.getElem?_eq_getElem hla, List.getElem?_eq_getElem hlb⟩
        clear hat hat'
        generalize a[k] = x at *
        generalize b[k] = y at *
        obtain ⟨x0, x1, x2, x3, x4, x5, x6, x7, x8, x9, x10, x11, x12, x13, x14⟩ := hx
        obtain ⟨y0, y1, y2, y3, y4, y5, y6, y7, y8, y9, y10, y11, y12, y13, y14⟩ := hy
        have hq := neq_stroke x y
        cases ht : eqS x y
        · have HF : Hid (R = false ∧ Below w.heap.size w wr) := by
            refine ⟨?_, HK.out.2⟩
            rw [← HR.out]
            refine samZ_no fun e => ?_
            have h1 := HE.out.1
            rw [e, HE.out.2] at h1
            injection h1 with h1
            rw [h1, eqS_self] at ht
            cases ht
          rw [ht] at hq
          clear HK HE ht hla hlb
          go_wp2_with fail
          go_quiet (fail)
          go_wp2
          go_ret
          exact ⟨by rw [HF.out.1]; rfl, below_drewN HF.out.2⟩
        · have HF : Hid ((∀ j, j < k + 1 → a[j]? = b[j]?) ∧ Below w.heap.size w wr) := by
            refine ⟨fun j hj => ?_, HK.out.2⟩
            by_cases hjk : j = k
            · subst hjk; rw [HE.out.1, HE.out.2, (eqS_iff x y).1 ht]
            · exact HK.out.1 j (by omega)
          rw [ht] at hq
          clear HK HE ht hla hlb
          go_wp2_with fail
          go_quiet (fail)
          go_wp2
          go_roundw
          case rel => exact ⟨k + 1, by omega, by go_num, HF.out.1, below_drewN HF.out.2⟩
          case measure => simp [intOf]; omega
      · obtain rfl : k = m := by omega
        have HF : Hid (R = true ∧ Below w.heap.size w wr) := by
          refine ⟨?_, HK.out.2⟩
          rw [← HR.out, samZ_iff]
          refine List.ext_getElem? fun j => ?_
          by_cases hj : j < k
          · exact HK.out.1 j hj
          · rw [List.getElem?_eq_none (by have := HM.out.2; omega), List.getElem?_eq_none (by have := HM.out.1; omega)]
        clear HK
        go_wp2
        go_ret
        exact ⟨by rw [HF.out.1]; rfl, HF.out.2⟩

theorem lsame_any (a b : List St) (va vb : Value) (w : World) (ha : LsS w va a) (hb : LsS w vb b) (hl : a.length < 1000000) :
    Calls Tryz.prog 7 #[va, vb] w fun e w' => e = .returned (.bool (samZ a b)) ∧ Below w.heap.size w w' := by
  have HE : Hid (Calls Tryz.prog 18 #[va, vb] w fun e w' => e = .returned (.bool (samZ a b)) ∧ Below w.heap.size w w') := equalZ_any a b va vb w ha hb hl
  clear ha hb
  generalize samZ a b = sb at *
  go_enter Tryz.func7, Tryz.ntmps7
  go_wp2_with fail
  refine HE.out.mono ?_
  rintro e w1 ⟨rfl, hb1⟩
  have H1 : Hid (Below w.heap.size w w1) := hb1
  clear hb1
  go_wp2
  go_ret
  exact ⟨rfl, H1.out⟩

end Go.Proofs.YtfjbnejmcanamaaGreatDoor

/-
  A rectangle that came in, written out.
-/
namespace Go.Proofs.YtfjbnejmcanamaaGreatDoor
open Go.ChangeShapes Go.WideShapes Go.ChangeAt Go.RowKit Go.Joins

theorem own : ownKnob Tryz.prog.godebug = none := by kernel_rfl
theorem laidOut : laidOutB Tryz.prog = true := by kernel_rfl
theorem cells_r : Tryz.prog.cellsOf 51 = 4 := by kernel_rfl
theorem cells_p : Tryz.prog.cellsOf 49 = 2 := by kernel_rfl
theorem cells_s : Tryz.prog.cellsOf 24 = 2 := by kernel_rfl
theorem cells_i : Tryz.prog.cellsOf 3 = 1 := by kernel_rfl

theorem i64_of {n : Int} (h : (Lit.int .i64 n).wf = true) : I64 n := by
  have := bounds_i64 h
  exact ⟨this.1, this.2⟩

set_option maxRecDepth 100000 in
theorem rect_cells {H : Type} {enc : TypeId × Value → H} {W : World} {b : Nat} {sp : Nat → Bool} {held : Bool} {fuel : Nat} {cs : List Value} {x : DataW H × List MemPlace} (h : DataW.trod enc Tryz.prog W b sp held fuel 51 cs = some x) :
    ∃ r : Rc, cs = [.int .i64 r.x, .int .i64 r.y, .int .i64 r.w, .int .i64 r.h] ∧ I64 r.x ∧ I64 r.y := by
  obtain ⟨y0, y1, n, _, hl, h0, h1⟩ := trod_struct2 Tryz.underlying51 h
  rw [cells_r] at hl
  match cs, hl with
  | [c0, c1, c2, c3], _ =>
    simp [cells_p, cells_s] at h0 h1
    obtain ⟨y00, y01, n0, _, _, h00, h01⟩ := trod_struct2 Tryz.underlying49 h0
    obtain ⟨y10, y11, n1, _, _, h10, h11⟩ := trod_struct2 Tryz.underlying24 h1
    simp [cells_i] at h00 h01 h10 h11
    obtain ⟨a0, e0, _, w0⟩ := DataW.trod_int Tryz.underlying3 h00
    obtain ⟨a1, e1, _, w1⟩ := DataW.trod_int Tryz.underlying3 h01
    obtain ⟨a2, e2, _, _⟩ := DataW.trod_int Tryz.underlying3 h10
    obtain ⟨a3, e3, _, _⟩ := DataW.trod_int Tryz.underlying3 h11
    simp at e0 e1 e2 e3
    subst e0 e1 e2 e3
    exact ⟨⟨a0, a1, a2, a3⟩, rfl, i64_of w0, i64_of w1⟩

end Go.Proofs.YtfjbnejmcanamaaGreatDoor

/-
  Not needed in this seat.
-/
namespace Go.Proofs.YtfjbnejmcanamaaGreatDoor

end Go.Proofs.YtfjbnejmcanamaaGreatDoor

/-
  A list of strokes, a point that came in: written out.
-/
namespace Go.Proofs.YtfjbnejmcanamaaGreatDoor
open Go.ChangeShapes Go.WideShapes Go.ChangeAt Go.RowKit Go.Joins

theorem cells_c : Tryz.prog.cellsOf 26 = 4 := by kernel_rfl
theorem cells_u8 : Tryz.prog.cellsOf 5 = 1 := by kernel_rfl
theorem cells_t : Tryz.prog.cellsOf 9 = 1 := by kernel_rfl
theorem cells_st : Tryz.prog.cellsOf 53 = 15 := by kernel_rfl

theorem trod_struct6 {H : Type} {enc : TypeId × Value → H} {P : Program} {w : World} {base : Nat} {spare : Nat → Bool} {held : Bool} {t : TypeId} {f0 f1 f2 f3 f4 f5 : Field} {fuel : Nat} {cs : List Value} {x : DataW H × List MemPlace} (ht : P.underlying t = some (.struct #[f0, f1, f2, f3, f4, f5])) (h : DataW.trod enc P w base spare held fuel t cs = some x) :
    ∃ y0 y1 y2 y3 y4 y5 n, cs.length = P.cellsOf t ∧ DataW.trod enc P w base spare held n f0.type ((cs.drop f0.offset).take (P.cellsOf f0.type)) = some y0 ∧
      DataW.trod enc P w base spare held n f1.type ((cs.drop f1.offset).take (P.cellsOf f1.type)) = some y1 ∧ DataW.trod enc P w base spare held n f2.type ((cs.drop f2.offset).take (P.cellsOf f2.type)) = some y2 ∧
      DataW.trod enc P w base spare held n f3.type ((cs.drop f3.offset).take (P.cellsOf f3.type)) = some y3 ∧ DataW.trod enc P w base spare held n f4.type ((cs.drop f4.offset).take (P.cellsOf f4.type)) = some y4 ∧ DataW.trod enc P w base spare held n f5.type ((cs.drop f5.offset).take (P.cellsOf f5.type)) = some y5 := by
  obtain ⟨xs, n, _, rfl, hl, hlen, hf⟩ := DataW.trod_struct ht h
  match xs, hlen with
  | [y0, y1, y2, y3, y4, y5], _ => exact ⟨y0, y1, y2, y3, y4, y5, n, hl, by simpa using hf 0 f0 rfl, by simpa using hf 1 f1 rfl, by simpa using hf 2 f2 rfl, by simpa using hf 3 f3 rfl, by simpa using hf 4 f4 rfl, by simpa using hf 5 f5 rfl⟩

theorem colZ_cells {H : Type} {enc : TypeId × Value → H} {W : World} {b : Nat} {sp : Nat → Bool} {held : Bool} {fuel : Nat} {c0 c1 c2 c3 : Value} {x : DataW H × List MemPlace} (h : DataW.trod enc Tryz.prog W b sp held fuel 26 [c0, c1, c2, c3] = some x) :
    ∃ c : Co, c0 = .int .u8 c.r ∧ c1 = .int .u8 c.g ∧ c2 = .int .u8 c.b ∧ c3 = .int .u8 c.a ∧ c.ok := by
  obtain ⟨y0, y1, y2, y3, n, _, _, h0, h1, h2, h3⟩ := trod_struct4 Tryz.underlying26 h
  simp [cells_u8] at h0 h1 h2 h3
  obtain ⟨a0, e0, _, w0⟩ := DataW.trod_int Tryz.underlying5 h0
  obtain ⟨a1, e1, _, w1⟩ := DataW.trod_int Tryz.underlying5 h1
  obtain ⟨a2, e2, _, w2⟩ := DataW.trod_int Tryz.underlying5 h2
  obtain ⟨a3, e3, _, w3⟩ := DataW.trod_int Tryz.underlying5 h3
  simp at e0 e1 e2 e3
  have b0 := bounds_u8 w0
  have b1 := bounds_u8 w1
  have b2 := bounds_u8 w2
  have b3 := bounds_u8 w3
  refine ⟨⟨a0, a1, a2, a3⟩, e0, e1, e2, e3, ?_⟩
  unfold Co.ok By
  dsimp only
  omega

set_option maxRecDepth 100000 in
theorem rectZ_cells {H : Type} {enc : TypeId × Value → H} {W : World} {b : Nat} {sp : Nat → Bool} {held : Bool} {fuel : Nat} {cs : List Value} {x : DataW H × List MemPlace} (h : DataW.trod enc Tryz.prog W b sp held fuel 51 cs = some x) :
    ∃ r : Rc, cs = [.int .i64 r.x, .int .i64 r.y, .int .i64 r.w, .int .i64 r.h] ∧ I64 r.x ∧ I64 r.y ∧ I64 r.w ∧ I64 r.h := by
  obtain ⟨y0, y1, n, _, hl, h0, h1⟩ := trod_struct2 Tryz.underlying51 h
  rw [cells_r] at hl
  match cs, hl with
  | [c0, c1, c2, c3], _ =>
    simp [cells_p, cells_s] at h0 h1
    obtain ⟨y00, y01, n0, _, _, h00, h01⟩ := trod_struct2 Tryz.underlying49 h0
    obtain ⟨y10, y11, n1, _, _, h10, h11⟩ := trod_struct2 Tryz.underlying24 h1
    simp [cells_i] at h00 h01 h10 h11
    obtain ⟨a0, e0, _, w0⟩ := DataW.trod_int Tryz.underlying3 h00
    obtain ⟨a1, e1, _, w1⟩ := DataW.trod_int Tryz.underlying3 h01
    obtain ⟨a2, e2, _, w2⟩ := DataW.trod_int Tryz.underlying3 h10
    obtain ⟨a3, e3, _, w3⟩ := DataW.trod_int Tryz.underlying3 h11
    simp at e0 e1 e2 e3
    subst e0 e1 e2 e3
    exact ⟨⟨a0, a1, a2, a3⟩, rfl, i64_of w0, i64_of w1, i64_of w2, i64_of w3⟩

set_option maxRecDepth 100000 in
theorem stroke_cells {H : Type} {enc : TypeId × Value → H} {W : World} {b : Nat} {sp : Nat → Bool} {held : Bool} {fuel : Nat} {cs : List Value} {x : DataW H × List MemPlace} (h : DataW.trod enc Tryz.prog W b sp held fuel 53 cs = some x) :
    ∃ s : St, cs = sCel s ∧ WfS s := by
  obtain ⟨y0, y1, y2, y3, y4, y5, n, hl, h0, h1, h2, h3, h4, h5⟩ := trod_struct6 Tryz.underlying53 h
  rw [cells_st] at hl
  match cs, hl with
  | [c0, c1, c2, c3, c4, c5, c6, c7, c8, c9, c10, c11, c12, c13, c14], _ =>
    simp [cells_u8, cells_r, cells_c, cells_t, cells_i] at h0 h1 h2 h3 h4 h5
    obtain ⟨a0, e0, _, w0⟩ := DataW.trod_int Tryz.underlying5 h0
    obtain ⟨r, er, i1, i2, i3, i4⟩ := rectZ_cells h1
    obtain ⟨c, d0, d1, d2, d3, okc⟩ := colZ_cells h2
    obtain ⟨k, f0, f1, f2, f3, okk⟩ := colZ_cells h3
    obtain ⟨t, et, _, wt⟩ := DataW.trod_string Tryz.underlying9 h4
    obtain ⟨m, em, _, wm⟩ := DataW.trod_int Tryz.underlying3 h5
    simp at e0 er et em
    obtain ⟨r1, r2, r3, r4⟩ := er
    have hb := bounds_u8 w0
    refine ⟨⟨a0, r, c, k, t, m⟩, ?_, ⟨by dsimp only; omega, by dsimp only; omega⟩, ⟨i1, i2, i3, i4⟩, okc, okk, wt, i64_of wm⟩
    rw [e0, r1, r2, r3, r4, d0, d1, d2, d3, f0, f1, f2, f3, et, em]
    rfl

theorem strokes_of {W : World} {g o : Nat} : ∀ (n : Nat), (∀ i, i < n → ∃ s : St, StAt W g (o + i * 15) s ∧ WfS s) → ∃ l : List St, l.length = n ∧ (∀ i (h : i < l.length), StAt W g (o + i * 15) l[i]) ∧ Wfs l
  | 0, _ => ⟨[], rfl, fun i h => absurd h (Nat.not_lt_zero i), fun r hr => by simp at hr⟩
  | n + 1, h => by
    obtain ⟨rs, hl, ha, hw⟩ := strokes_of n fun i hi => h i (by omega)
    obtain ⟨r, hr, hz⟩ := h n (by omega)
    refine ⟨rs ++ [r], by simp [hl], fun i hi => ?_, fun x hx => ?_⟩
    · by_cases e : i < rs.length
      · rw [List.getElem_append_left e]; exact ha i e
      · have : i = n := by simp at hi; omega
        subst this
        subst hl
        rw [List.getElem_concat_length rfl]
        exact hr
    · rcases List.mem_append.1 hx with hx | hx
      · exact hw x hx
      · simp at hx; subst hx; exact hz

set_option maxRecDepth 100000 in
theorem open_strokes {H : Type} {enc : TypeId × Value → H} {W : World} {base b : Nat} {sp : Nat → Bool} {held : Bool} {v : Value} {d : DataW H} {p : List MemPlace}
    (hv : Value.okWide Tryz.prog W .any base 22 v) (h : DataW.Trod enc Tryz.prog W b sp held 22 v d p) : ∃ l : List St, LsS W v l ∧ Wfs l ∧ NoNil v := by
  obtain ⟨oa, len, cap, rfl⟩ := okWide_slice Tryz.underlying22 hv
  obtain ⟨fuel, hf⟩ := h
  rcases DataW.trod_slice Tryz.underlying22 hf with ⟨he, _⟩ | ⟨a, len', cap', el, rest, n, _, he, _, _, hlc, hcm, hel, hat, _, _⟩
  · simp [Value.cells] at he
    obtain ⟨rfl, rfl, rfl⟩ := he
    exact ⟨[], ⟨none, 0, rfl, Nat.le_refl _, fun h => by simp at h⟩, fun r hr => by simp at hr, fun c hc => by injection hc with _ _ h; exact h.symm⟩
  · simp [Value.cells] at he
    obtain ⟨rfl, rfl, rfl⟩ := he
    have hnn : NoNil (.slice (some a) len cap) := fun c hc => by injection hc with h1 _ _; cases h1
    rw [cells_st] at hat
    obtain ⟨g, o, s⟩ := a
    have key : ∀ i, i < len → ∃ r : St, (∀ j, j < 15 → W.cell? ((Addr.mk g o s).add (i * 15) |>.add j) = (sCel r)[j]?) ∧ WfS r := by
      intro i hi
      have h1 := hat i hi
      obtain ⟨bb, hb⟩ : ∃ bb, el[i]? = some bb := ⟨el[i]'(by omega), List.getElem?_eq_getElem (by omega)⟩
      rw [hb] at h1
      obtain ⟨ce, hce, hte⟩ := Option.bind_eq_some_iff.1 h1
      obtain ⟨r, hr, hw⟩ := stroke_cells hte
      obtain ⟨_, _, hcc⟩ := World.cells?_some hce
      exact ⟨r, fun j hj => by rw [hcc j hj, hr], hw⟩
    by_cases h0 : len = 0
    · subst h0
      exact ⟨[], ⟨_, cap, rfl, Nat.zero_le _, fun h => by simp at h⟩, fun r hr => by simp at hr, hnn⟩
    obtain rfl : s = none := by
      obtain ⟨r, hr, _⟩ := key 0 (by omega)
      have h00 := hr 0 (by omega)
      have : (Addr.add (Addr.add ⟨g, o, s⟩ (0 * 15)) 0) = ⟨g, o, s⟩ := by simp [Addr.add]
      rw [this] at h00
      exact Go.Proofs.cell_spot h00
    obtain ⟨rs, hl, ha, hw⟩ := strokes_of (W := W) (g := g) (o := o) len fun i hi => by
      obtain ⟨r, hr, hz⟩ := key i hi
      have e := fun j hj => hr j hj
      simp only [Addr.add_lit] at e
      exact ⟨r, stat_iff.2 e, hz⟩
    subst hl
    have hg : g < W.heap.size := by
      have h1 := (ha 0 (by omega)).1
      rcases Nat.lt_or_ge g W.heap.size with h' | h'
      · exact h'
      · simp [World.cell?, Array.getElem?_eq_none h'] at h1
    exact ⟨rs, ⟨_, cap, rfl, hlc, fun _ => ⟨g, o, rfl, hg, ha⟩⟩, hw, hnn⟩

set_option maxRecDepth 100000 in
theorem open_pt {H : Type} {enc : TypeId × Value → H} {W : World} {base b : Nat} {sp : Nat → Bool} {held : Bool} {v : Value} {d : DataW H} {p : List MemPlace}
    (hv : Value.okWide Tryz.prog W .any base 49 v) (h : DataW.Trod enc Tryz.prog W b sp held 49 v d p) : ∃ x y : Int, v = .agg #[.int .i64 x, .int .i64 y] ∧ I64 x ∧ I64 y := by
  obtain ⟨c0, c1, y0, y1, m, rfl, rfl, rfl, hy0, hy1⟩ := open_agg2 Tryz.underlying49 (by kernel_rfl) cells_p hv h
  obtain ⟨a, e0, rfl, wa⟩ := DataW.trod_int Tryz.underlying3 hy0
  obtain ⟨c, e1, rfl, wc⟩ := DataW.trod_int Tryz.underlying3 hy1
  simp at e0 e1
  subst e0 e1
  exact ⟨a, c, rfl, i64_of wa, i64_of wc⟩

end Go.Proofs.YtfjbnejmcanamaaGreatDoor

/-
  A size that came in, written out; the program's own settings; the table of the library's numbers.
-/
namespace Go.Proofs.YtfjbnejmcanamaaGreatDoor
open Go.ChangeShapes Go.WideShapes Go.ChangeAt Go.RowKit Go.Joins

theorem own_w : ownKnob Tryz.prog.godebug = none := by kernel_rfl
theorem laid_w : laidOutB Tryz.prog = true := by kernel_rfl

set_option maxRecDepth 100000 in
theorem open_siz {H : Type} {enc : TypeId × Value → H} {W : World} {base b : Nat} {sp : Nat → Bool} {held : Bool} {v : Value} {d : DataW H} {p : List MemPlace}
    (hv : Value.okWide Tryz.prog W .any base 24 v) (h : DataW.Trod enc Tryz.prog W b sp held 24 v d p) : ∃ x y : Int, v = .agg #[.int .i64 x, .int .i64 y] ∧ I64 x ∧ I64 y := by
  obtain ⟨c0, c1, y0, y1, m, rfl, rfl, rfl, hy0, hy1⟩ := open_agg2 Tryz.underlying24 (by kernel_rfl) cells_s hv h
  obtain ⟨a, e0, rfl, wa⟩ := DataW.trod_int Tryz.underlying3 hy0
  obtain ⟨c, e1, rfl, wc⟩ := DataW.trod_int Tryz.underlying3 hy1
  simp at e0 e1
  subst e0 e1
  exact ⟨a, c, rfl, i64_of wa, i64_of wc⟩

theorem pow_eq : Rows.laid_internal_strconv_uint64pow10 (H := Unit) = Lib.tabData .u64 Lib.pow10Tab := by kernel_rfl
theorem pw_of {W : World} {l : List (String × DataW Unit)} (hm : ("internal/strconv.uint64pow10", Rows.laid_internal_strconv_uint64pow10) ∈ l) (hL : laidMet Tryz.prog l W) : PwI W := by
  have r2 : Lib.VarReads Tryz.prog W "internal/strconv.uint64pow10" (Lib.tabData .u64 Lib.pow10Tab) := pow_eq ▸ Lib.laidMet.reads hL hm
  obtain ⟨g', t, cs, fuel, p, hg, hty, hvar, hd⟩ := r2
  obtain rfl := Option.some.inj ((show Tryz.prog.globalNamed "internal/strconv.uint64pow10" = some 5 by kernel_rfl).symm.trans hg)
  obtain rfl := Option.some.inj ((show (Tryz.prog.globals[5]?).map (·.type) = some 217 by kernel_rfl).symm.trans hty)
  unfold PwI Lib.TabIs
  rw [hvar, ← Lib.cells_of_tab Tryz.underlying217 Tryz.underlying123 (by kernel_rfl) (by kernel_rfl) hd]

end Go.Proofs.YtfjbnejmcanamaaGreatDoor

/-
  A colour that came in, written out; what the listed variables give: the library's numbers, its errors, the type of errors, the tables of runes, the runes of frames.
-/
namespace Go.Proofs.YtfjbnejmcanamaaGreatDoor
open Go.ChangeShapes Go.WideShapes Go.ChangeAt Go.RowKit Go.Joins Go.Lib

set_option maxRecDepth 100000 in
theorem open_colour {H : Type} {enc : TypeId × Value → H} {W : World} {base b : Nat} {sp : Nat → Bool} {held : Bool} {v : Value} {d : DataW H} {p : List MemPlace}
    (hv : Value.okWide Tryz.prog W .any base 26 v) (h : DataW.Trod enc Tryz.prog W b sp held 26 v d p) : ∃ c : Co, v = (Value.agg #[.int .u8 c.r, .int .u8 c.g, .int .u8 c.b, .int .u8 c.a]) ∧ c.ok := by
  obtain ⟨c0, c1, c2, c3, y0, y1, y2, y3, m, rfl, rfl, rfl, h0, h1, h2, h3⟩ := open_agg4 Tryz.underlying26 (by kernel_rfl) cells_c hv h
  obtain ⟨a0, e0, _, w0⟩ := DataW.trod_int Tryz.underlying5 h0
  obtain ⟨a1, e1, _, w1⟩ := DataW.trod_int Tryz.underlying5 h1
  obtain ⟨a2, e2, _, w2⟩ := DataW.trod_int Tryz.underlying5 h2
  obtain ⟨a3, e3, _, w3⟩ := DataW.trod_int Tryz.underlying5 h3
  simp at e0 e1 e2 e3
  subst e0 e1 e2 e3
  have b0 := bounds_u8 w0
  have b1 := bounds_u8 w1
  have b2 := bounds_u8 w2
  have b3 := bounds_u8 w3
  refine ⟨⟨a0, a1, a2, a3⟩, rfl, ?_⟩
  unfold Co.ok By
  dsimp only
  omega

def spanData (xs : List (Int × Int)) : DataW Unit := .slice (xs.map fun x => .agg ([x.1, x.2].map fun z => .lit (.int .i32 z))) []
theorem marks_eq : Rows.laid_casement_runes_marks (H := Unit) = spanData marksL := by kernel_rfl
theorem wides_eq : Rows.laid_casement_runes_wides (H := Unit) = spanData widesL := by kernel_rfl
theorem c_span : Tryz.prog.cellsOf 197 = 2 := by kernel_rfl
theorem c_i32 : Tryz.prog.cellsOf 21 = 1 := by kernel_rfl

theorem spans_of_reads {name : String} {g : Nat} (hn : Tryz.prog.globalNamed name = some g) (hy : (Tryz.prog.globals[g]?).map (·.type) = some 195) {xs : List (Int × Int)} (h0 : xs ≠ []) {w : World} (h : VarReads Tryz.prog w name (spanData xs)) : Spans w g xs := by
  obtain ⟨g', t, cs, fuel, p, hg, hty, hvar, hd⟩ := h
  obtain rfl := Option.some.inj (hn.symm.trans hg)
  obtain rfl := Option.some.inj (hy.symm.trans hty)
  rcases DataW.trod_slice Tryz.underlying195 hd with ⟨_, hx⟩ | ⟨a, len, cap, el, rs, m, rfl, hcs, hx, _, hlc, _, hel, helem, _, _⟩
  · cases hx
  · have eE : el.map (·.1) = xs.map fun x => (.agg ([x.1, x.2].map fun z => .lit (.int .i32 z)) : DataW Unit) := by
      have := congrArg Prod.fst hx
      simp only [spanData, DataW.slice.injEq] at this
      exact this.1.symm
    have hlen : len = xs.length := by
      have := congrArg List.length eE
      simp at this
      omega
    subst hlen
    have hrange : ∀ i (hi : i < xs.length), ∀ j, j < 2 → w.cell? ((a.add (i * 2)).add j) = ([.int .i32 xs[i].1, .int .i32 xs[i].2] : List Value)[j]? := by
      intro i hi j hj
      have h1 := helem i hi
      rw [c_span] at h1
      obtain ⟨b, hb⟩ : ∃ b, el[i]? = some b := ⟨el[i]'(by omega), List.getElem?_eq_getElem (by omega)⟩
      rw [hb] at h1
      obtain ⟨ce, hce, hte⟩ := Option.bind_eq_some_iff.1 h1
      have hb1 : b.1 = .agg ([xs[i].1, xs[i].2].map fun z => .lit (.int .i32 z)) := by
        have := congrArg (·[i]?) eE
        simpa [hb, hi] using this
      have hcs2 := ints_of_struct (p := b.2) Tryz.underlying197 (fun q f hq => by
        match q, hq with
        | 0, hq => simp at hq; subst hq; exact ⟨Tryz.underlying21, rfl, c_i32⟩
        | 1, hq => simp at hq; subst hq; exact ⟨Tryz.underlying21, rfl, c_i32⟩
        | q + 2, hq => simp at hq) (by rw [c_span]; rfl) (by rw [← hb1]; exact hte)
      obtain ⟨_, _, hcc⟩ := World.cells?_some hce
      rw [hcc j hj, hcs2]
      rfl
    obtain ⟨R, o, sR⟩ := a
    have hpos : 0 < xs.length := by
      cases xs with
      | nil => exact absurd rfl h0
      | cons _ _ => simp
    obtain rfl : sR = none := by
      have h00 := hrange 0 hpos 0 (by omega)
      have : (Addr.add (Addr.add ⟨R, o, sR⟩ (0 * 2)) 0) = ⟨R, o, sR⟩ := by simp [Addr.add]
      rw [this] at h00
      exact cell_spot h00
    refine ⟨R, o, cap, ?_, hlc, fun i hi => ?_⟩
    · rw [World.var?_cell hg hvar 0, ← Array.getElem?_toList, hcs]
      rfl
    · have k0 := hrange i hi 0 (by omega)
      have k1 := hrange i hi 1 (by omega)
      rw [Addr.add_lit, Addr.add_lit] at k0 k1
      exact ⟨by simpa using k0, by simpa using k1⟩

set_option maxRecDepth 100000 in
theorem c_box4 : Tryz.prog.cellsOf 171 = 4 := by kernel_rfl
set_option maxRecDepth 100000 in
theorem box_of {W : World} (h : VarReads Tryz.prog W "casement/cells.box" (Rows.laid_casement_cells_box (H := Unit))) : ∀ i j : Nat, i < 4 → j < 4 → W.cell? ⟨1, i * 4 + j, none⟩ = some (.int .i32 (([0, 9474, 9474, 9474, 9472, 9484, 9488, 9474, 9472, 9492, 9496, 9474, 9472, 9472, 9472, 9633] : List Int).getD (i * 4 + j) 0)) := by
  obtain ⟨g', t, cs, fuel, p, hg, hty, hvar, hd⟩ := h
  obtain rfl := Option.some.inj ((show Tryz.prog.globalNamed "casement/cells.box" = some 1 by kernel_rfl).symm.trans hg)
  obtain rfl := Option.some.inj ((show (Tryz.prog.globals[1]?).map (·.type) = some 172 by kernel_rfl).symm.trans hty)
  obtain ⟨xs, m, rfl, hx, hl, hn, hf⟩ := DataW.trod_array Tryz.underlying172 hd
  match xs, hn with
  | [x0, x1, x2, x3], _ =>
    obtain ⟨x0, p0⟩ := x0
    obtain ⟨x1, p1⟩ := x1
    obtain ⟨x2, p2⟩ := x2
    obtain ⟨x3, p3⟩ := x3
    have hx1 := congrArg Prod.fst hx
    simp only [Rows.laid_casement_cells_box, List.map_cons, List.map_nil, DataW.agg.injEq, List.cons.injEq, and_true] at hx1
    obtain ⟨rfl, rfl, rfl, rfl⟩ := hx1
    have f0 := hf 0 (by omega)
    have f1 := hf 1 (by omega)
    have f2 := hf 2 (by omega)
    have f3 := hf 3 (by omega)
    rw [c_box4] at f0 f1 f2 f3
    have k0 := cells_of_tab (zs := [0, 9474, 9474, 9474]) Tryz.underlying171 Tryz.underlying21 c_i32 c_box4 f0
    have k1 := cells_of_tab (zs := [9472, 9484, 9488, 9474]) Tryz.underlying171 Tryz.underlying21 c_i32 c_box4 f1
    have k2 := cells_of_tab (zs := [9472, 9492, 9496, 9474]) Tryz.underlying171 Tryz.underlying21 c_i32 c_box4 f2
    have k3 := cells_of_tab (zs := [9472, 9472, 9472, 9633]) Tryz.underlying171 Tryz.underlying21 c_i32 c_box4 f3
    intro i j hi hj
    rw [World.var?_cell hg hvar (i * 4 + j), ← Array.getElem?_toList]
    have e : cs.toList[i * 4 + j]? = ((cs.toList.drop (i * 4)).take 4)[j]? := by simp [hj, List.getElem?_drop]
    rw [e]
    rcases (show i = 0 ∨ i = 1 ∨ i = 2 ∨ i = 3 by omega) with rfl | rfl | rfl | rfl
    · rw [k0]
      rcases (show j = 0 ∨ j = 1 ∨ j = 2 ∨ j = 3 by omega) with rfl | rfl | rfl | rfl <;> rfl
    · rw [k1]
      rcases (show j = 0 ∨ j = 1 ∨ j = 2 ∨ j = 3 by omega) with rfl | rfl | rfl | rfl <;> rfl
    · rw [k2]
      rcases (show j = 0 ∨ j = 1 ∨ j = 2 ∨ j = 3 by omega) with rfl | rfl | rfl | rfl <;> rfl
    · rw [k3]
      rcases (show j = 0 ∨ j = 1 ∨ j = 2 ∨ j = 3 by omega) with rfl | rfl | rfl | rfl <;> rfl

theorem cut_rt : (Tryz.prog.cutTypes.find? (·.1 == "internal/reflectlite.rtype")).map (·.2) = some 151 := by kernel_rfl
theorem one_row : ((List.range 260).filter fun t => Tryz.prog.rowNamed t [101, 114, 114, 111, 114]) = [55] := by kernel_rfl
theorem n_types : Tryz.prog.types.size = 260 := by kernel_rfl
theorem et_name : Tryz.prog.globalNamed "errors.errorType" = some 0 := by kernel_rfl
theorem et_hand : typeHandle Tryz.prog 55 = .pointer (some ⟨10, 55, none⟩) := by kernel_rfl
theorem es_star : "*" ++ "errors.errorString" = "*errors.errorString" := by decide
theorem es_row (u : TypeId) (h : Tryz.prog.typeName? 3 u = some "*errors.errorString") : u = 227 :=
  typeName_ptr_named (nm := "errors.errorString") (by rw [es_star]; kernel_rfl) (by kernel_rfl) (by decide) u (by rw [es_star]; exact h)
theorem es_cells : Tryz.prog.cellsOf 229 = 1 := by kernel_rfl
theorem s_cells : Tryz.prog.cellsOf 9 = 1 := by kernel_rfl
theorem er_iface {W : World} {n : String} {g : Nat} {a : Addr} (hg : Tryz.prog.globalNamed n = some g) (h : W.var? Tryz.prog n = some #[.iface 227 (.pointer (some a))]) : ∃ ev, W.cell? ⟨g, 0, none⟩ = some ev ∧ (ev = .nilIface ∨ ∃ te pe, ev = .iface te pe) :=
  ⟨_, by simpa using World.var?_cell hg h 0, .inr ⟨_, _, rfl⟩⟩

set_option maxRecDepth 100000 in
theorem env_of {W : World} (h : laidMetH Tryz.prog Rows.topBackendsRow.laid W) (hsh : W.ShapedOpen Tryz.prog) : (EnR W.heap.size W ∧ EtI W) ∧ ∀ W', Below W.heap.size W W' → TbD W' := by
  obtain ⟨hd, hh⟩ := (show laidMet Tryz.prog [("math/bits.deBruijn32tab", Rows.laid_math_bits_deBruijn32tab), ("math/bits.deBruijn64tab", Rows.laid_math_bits_deBruijn64tab), ("internal/strconv.uint64pow10", Rows.laid_internal_strconv_uint64pow10), ("strconv.ErrRange", Rows.laid_strconv_ErrRange), ("strconv.ErrSyntax", Rows.laid_strconv_ErrSyntax), ("casement/runes.marks", Rows.laid_casement_runes_marks), ("casement/runes.wides", Rows.laid_casement_runes_wides), ("casement/cells.box", Rows.laid_casement_cells_box)] W ∧ handlesMet Tryz.prog [("errors.errorType", Rows.laid_errors_errorType)] W from h)
  refine ⟨⟨?_, ?_⟩, ?_⟩
  · have hp : PwI W := pw_of (.tail _ (.tail _ (.head _))) hd
    obtain ⟨a1, s1, v1, _, _, _⟩ := laid_sentinel hd.tail.tail.tail (g := 7) (ti := 55) (by kernel_rfl) (by kernel_rfl) Tryz.underlying55 es_row Tryz.underlying227 Tryz.underlying229 rfl rfl Tryz.underlying9 es_cells s_cells
    obtain ⟨a2, s2, v2, _, _, _⟩ := laid_sentinel hd.tail.tail.tail.tail (g := 6) (ti := 55) (by kernel_rfl) (by kernel_rfl) Tryz.underlying55 es_row Tryz.underlying227 Tryz.underlying229 rfl rfl Tryz.underlying9 es_cells s_cells
    have r1 := er_iface (g := 7) (by kernel_rfl) v1
    have r2 := er_iface (g := 6) (by kernel_rfl) v2
    obtain ⟨m, hm⟩ := Tryz.laysM145.s1_3 W hsh
    have lt : ∀ {g : Nat} {v : Value}, W.cell? ⟨g, 0, none⟩ = some v → g < W.heap.size := fun {g v} hc => by
      rcases Nat.lt_or_ge g W.heap.size with h1 | h1
      · exact h1
      · simp [World.cell?, Array.getElem?_eq_none h1] at hc
    intro w' hb
    refine ⟨hp.below hb, ?_, ?_, m, ?_⟩
    · obtain ⟨ev, hc, hk⟩ := r2
      exact ⟨ev, by rw [hb.cell (p := ⟨6, 0, none⟩) (lt hc)]; exact hc, hk⟩
    · obtain ⟨ev, hc, hk⟩ := r1
      exact ⟨ev, by rw [hb.cell (p := ⟨7, 0, none⟩) (lt hc)]; exact hc, hk⟩
    · rw [hb.cell (p := ⟨4, 0, none⟩) (lt hm)]; exact hm
  · obtain ⟨name, u, ty, e1, e2, e3, e4, e5⟩ := hh _ (List.mem_singleton.2 rfl)
    have en : name = [101, 114, 114, 111, 114] := (Option.some.inj e1).symm
    subst en
    obtain rfl := Option.some.inj (cut_rt.symm.trans e2)
    have hm : ty ∈ (List.range 260).filter fun t => Tryz.prog.rowNamed t [101, 114, 114, 111, 114] := List.mem_filter.2 ⟨List.mem_range.2 (by rw [← n_types]; exact e3), e4⟩
    rw [one_row] at hm
    obtain rfl := List.mem_singleton.1 hm
    rw [et_hand] at e5
    unfold EtI
    simpa using World.var?_cell et_name e5 0
  · have r3 : VarReads Tryz.prog W "casement/runes.marks" (spanData marksL) := marks_eq ▸ Lib.laidMet.reads hd (.tail _ (.tail _ (.tail _ (.tail _ (.tail _ (.head _))))))
    have r4 : VarReads Tryz.prog W "casement/runes.wides" (spanData widesL) := wides_eq ▸ Lib.laidMet.reads hd (.tail _ (.tail _ (.tail _ (.tail _ (.tail _ (.tail _ (.head _)))))))
    have r5 : VarReads Tryz.prog W "casement/cells.box" (Rows.laid_casement_cells_box (H := Unit)) := Lib.laidMet.reads hd (.tail _ (.tail _ (.tail _ (.tail _ (.tail _ (.tail _ (.tail _ (.head _))))))))
    have T : Tabs W := ⟨spans_of_reads (by kernel_rfl) (by kernel_rfl) (by decide) r3, spans_of_reads (by kernel_rfl) (by kernel_rfl) (by decide) r4⟩
    have hbx := box_of r5
    obtain ⟨m, hm⟩ := Tryz.laysM145.s1_3 W hsh
    have lt : ∀ {g o : Nat} {v : Value}, W.cell? ⟨g, o, none⟩ = some v → g < W.heap.size := fun {g o v} hc => by
      rcases Nat.lt_or_ge g W.heap.size with h1 | h1
      · exact h1
      · simp [World.cell?, Array.getElem?_eq_none h1] at hc
    intro W' hb
    refine ⟨T.below hb, ⟨m, ?_⟩, fun i j hi hj => ?_⟩
    · rw [hb.cell (p := ⟨4, 0, none⟩) (lt hm)]; exact hm
    · rw [hb.cell (p := ⟨1, i * 4 + j, none⟩) (lt (hbx i j hi hj))]; exact hbx i j hi hj

/-- A world that lays them so. -/
noncomputable def laidV (os : Os) : World :=
  let w0 := World.laidAll Tryz.prog os [("math/bits.deBruijn32tab", Rows.laid_math_bits_deBruijn32tab), ("math/bits.deBruijn64tab", Rows.laid_math_bits_deBruijn64tab), ("internal/strconv.uint64pow10", Rows.laid_internal_strconv_uint64pow10), ("strconv.ErrRange", Rows.laid_strconv_ErrRange), ("strconv.ErrSyntax", Rows.laid_strconv_ErrSyntax), ("casement/runes.marks", Rows.laid_casement_runes_marks), ("casement/runes.wides", Rows.laid_casement_runes_wides), ("casement/cells.box", Rows.laid_casement_cells_box)]
  { w0 with heap := w0.heap.modify 0 fun
      | .cells _ t frozen => .cells #[.iface 151 (.agg #[.pointer (some ⟨10, 55, none⟩)])] t frozen
      | o => o }
set_option maxRecDepth 100000 in
theorem laidV_os (os : Os) : (laidV os).os = os := by
  unfold laidV
  exact World.laidAll_os Tryz.prog os _
set_option maxRecDepth 100000 in
theorem laidV_met (os : Os) (args : Array Value) : laidMetH Tryz.prog Rows.topBackendsRow.laid ((laidV os).forCall (fun _ _ => 0) ⟨#[], args, []⟩).memory :=
  laidMetH_of_parts (laidMet_of_run3 8 (by kernel_rfl) (by kernel_rfl) (by kernel_rfl)) (by kernel_rfl)

end Go.Proofs.YtfjbnejmcanamaaGreatDoor
