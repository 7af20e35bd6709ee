/-
  Texts of this claim, one behind the other: what each is about stands ahead of it.
-/
import Derived.Test.YtbghjmkgicdnoaaGreatK19
import Derived.Test.YtbghjmkgicdnoaaGreatK24
import Derived.Test.YtbghjmkgicdnoaaGreatK26
import Derived.Test.YtbghjmkgicdnoaaGreatK9
import Derived.Test.YtbghjmkgicdnoaaGreatK11
/-
  The statements' own helpers: lists of rectangles compared, lists that are too long, strokes as they come in.
-/
namespace Go.Proofs.YtbghjmkgicdnoaaGreat
open Go.RowKit

/-- A stroke as it comes in: its numbers are such as its types hold. -/
def WfS (s : St) : Prop := (0 ≤ s.k ∧ s.k ≤ 255) ∧ (I64 s.r.x ∧ I64 s.r.y ∧ I64 s.r.w ∧ I64 s.r.h) ∧ s.c.ok ∧ s.b.ok ∧ s.t.size ≤ 9223372036854775807 ∧ I64 s.n
def Wfs (l : List St) : Prop := ∀ s ∈ l, WfS s
theorem Wfs.txs {l : List St} (h : Wfs l) : Txs l := fun s hs => (h s hs).2.2.2.2.1

set_option maxRecDepth 10000 in
set_option maxHeartbeats 2000000 in
theorem sameR_any (rs qs : List Rc) (v1 v2 : Value) (w : World) (h1 : LsR w v1 rs) (h2 : LsR w v2 qs) (hl : rs.length < 1000000000) :
    Calls Tryz.prog 14 #[v1, v2] w fun e w' => e = .returned (.bool (sameB rs qs)) ∧ Below w.heap.size w w' := by
  obtain ⟨oa, ca, rfl, ha, hga⟩ := h1
  obtain ⟨ob, cb, rfl, hb, hgb⟩ := h2
  by_cases hn : rs.length = qs.length
  case neg =>
    have hn' : ((rs.length : Int) == (qs.length : Int)) = false := beq_eq_false_iff_ne.2 (by omega)
    rw [show sameB rs qs = false from sameB_no fun h => hn (by rw [h])]
    go_enter Tryz.func14, Tryz.ntmps14
    go_wp2
    go_ret
    exact ⟨rfl, Below.refl _ _⟩
  case pos =>
    have HB : Hid ((0 < rs.length → ∃ g o, oa = some ⟨g, o, none⟩ ∧ g < w.heap.size ∧ ∀ i (h : i < rs.length), RcAt w g (o + i * 4) rs[i]) ∧ (0 < qs.length → ∃ g o, ob = some ⟨g, o, none⟩ ∧ g < w.heap.size ∧ ∀ i (h : i < qs.length), RcAt w g (o + i * 4) qs[i])) := ⟨hga, hgb⟩
    have HN : Hid (rs.length = qs.length) := hn
    obtain ⟨B, HBe⟩ : ∃ B, Hid (B = sameB rs qs) := ⟨_, rfl⟩
    rw [← HBe.out]
    have hnn : ((rs.length : Int) == (qs.length : Int)) = true := by simp [hn]
    clear hga hgb
    go_enter Tryz.func14, Tryz.ntmps14
    go_wp2_with fail
    go_loopw [5] (fun i wr => ∃ k : Nat, k ≤ rs.length ∧ i = .int .i64 k ∧ (∀ j, j < k → rs[j]? = qs[j]?) ∧ Below w.heap.size w wr) (fun i _ => rs.length - (intOf i).toNat)
    case atStart => exact ⟨0, Nat.zero_le _, rfl, fun j hj => absurd hj (by omega), Below.refl _ _⟩
    case round =>
      obtain ⟨k, hk, rfl, hall, hw⟩ := hrel
      by_cases hlt : k < rs.length
      · obtain ⟨hga, hgb⟩ := HB.out
        obtain ⟨g1, o1, rfl, l1, c1⟩ := hga (by omega)
        obtain ⟨g2, o2, rfl, l2, c2⟩ := hgb (by omega)
        have hlq : k < qs.length := by omega
        obtain ⟨p0, p1, p2, p3⟩ := (c1 k hlt).kept (w' := wr) fun j => hw.cell (p := ⟨g1, j, none⟩) l1
        obtain ⟨q0, q1, q2, q3⟩ := (c2 k hlq).kept (w' := wr) fun j => hw.cell (p := ⟨g2, j, none⟩) l2
        have er : rs[k]? = some rs[k] := List.getElem?_eq_getElem hlt
        have eq : qs[k]? = some qs[k] := List.getElem?_eq_getElem hlq
        clear c1 c2 hga hgb
        have HE : Hid (rs[k]? = some rs[k] ∧ qs[k]? = some qs[k] ∧ (∀ j, j < k → rs[j]? = qs[j]?) ∧ Below w.heap.size w wr) := ⟨er, eq, hall, hw⟩
        clear er eq hall hw
        generalize rs[k] = r at *
        generalize qs[k] = q at *
        have hq := neq_rect
        cases ht : ((r.x == q.x) && ((r.y == q.y) && ((r.w == q.w) && (r.h == q.h))))
        · go_wp2_with fail
          go_quiet (fail)
          go_wp2
          go_ret
          obtain ⟨er, eq, hall, hw⟩ := HE.out
          refine ⟨?_, below_drewN hw⟩
          rw [HBe.out, show sameB rs qs = false from sameB_no fun h => ?_]
          · rfl
          · rw [h, eq] at er
            exact absurd (Option.some.inj er).symm (rc_ne ht)
        · go_wp2_with fail
          go_quiet (fail)
          go_wp2
          go_roundw
          case rel =>
            obtain ⟨er, eq, hall, hw⟩ := HE.out
            refine ⟨k + 1, by omega, by go_num, fun j hj => ?_, below_drewN hw⟩
            by_cases hjk : j = k
            · subst hjk; rw [er, eq, rc_ext ht]
            · exact hall j (by omega)
          case measure => simp [intOf]; omega
      · have hse : sameB rs qs = true := (sameB_iff rs qs).2 <| by
          have := HN.out
          refine List.ext_getElem? fun j => ?_
          by_cases hj : j < k
          · exact hall j hj
          · rw [List.getElem?_eq_none (by omega), List.getElem?_eq_none (by omega)]
        have HX : Hid (B = true ∧ Below w.heap.size w wr) := ⟨by rw [HBe.out]; exact hse, hw⟩
        clear hse hall hw
        go_wp2
        go_ret
        exact ⟨by rw [HX.out.1]; rfl, HX.out.2⟩

def lonB (n : Nat) : Bool := (decide (200 < n) && decide (n ≤ 16384)) || decide (17000 < n)
set_option maxHeartbeats 1000000 in
theorem long_any (oa : Option Addr) (n cap : Nat) (w : World) : Calls Tryz.prog 5 #[.slice oa n cap] w fun e w' => e = .returned (.bool (lonB n)) ∧ Below w.heap.size w w' := by
  unfold lonB
  by_cases h1 : 200 < n
  · by_cases h2 : n ≤ 16384
    · have j1 : (200 : Int) < n := by omega
      have j2 : (n : Int) ≤ 16384 := by omega
      have HR : Hid ((decide (200 < n) && decide (n ≤ 16384) || decide (17000 < n)) = true) := by unfold Hid; simp [h1, h2]
      rw [HR.out]
      clear h1 h2
      go_enter Tryz.func5, Tryz.ntmps5
      go_wp2
      go_ret
      exact ⟨rfl, Below.refl _ _⟩
    · have j1 : (200 : Int) < n := by omega
      have j2 : ¬ (n : Int) ≤ 16384 := by omega
      have HR : Hid ((decide (200 < n) && decide (n ≤ 16384) || decide (17000 < n)) = decide ((17000 : Int) < n)) := by
        unfold Hid
        rw [decide_eq_false h2, Bool.and_false, Bool.false_or]
        exact decide_eq_decide.2 (by omega)
      rw [HR.out]
      clear h1 h2
      go_enter Tryz.func5, Tryz.ntmps5
      go_wp2
      go_ret
      exact ⟨rfl, Below.refl _ _⟩
  · have j1 : ¬ (200 : Int) < n := by omega
    have HR : Hid ((decide (200 < n) && decide (n ≤ 16384) || decide (17000 < n)) = decide ((17000 : Int) < n)) := by
      unfold Hid
      rw [decide_eq_false h1, Bool.false_and, Bool.false_or]
      exact decide_eq_decide.2 (by omega)
    rw [HR.out]
    clear h1
    go_enter Tryz.func5, Tryz.ntmps5
    go_wp2
    go_ret
    exact ⟨rfl, Below.refl _ _⟩

end Go.Proofs.YtbghjmkgicdnoaaGreat

/-
  A list of strokes, a point that came in: written out.
-/
namespace Go.Proofs.YtbghjmkgicdnoaaGreat
open Go.ChangeShapes Go.WideShapes Go.ChangeAt Go.RowKit Go.Joins

theorem cells_c : Tryz.prog.cellsOf 46 = 4 := by kernel_rfl
theorem cells_u8 : Tryz.prog.cellsOf 5 = 1 := by kernel_rfl
theorem cells_t : Tryz.prog.cellsOf 9 = 1 := by kernel_rfl
theorem cells_st : Tryz.prog.cellsOf 48 = 15 := by kernel_rfl

theorem trod_struct6 {H : Type} {enc : TypeId × Value → H} {P : Program} {w : World} {base : Nat} {spare : Nat → Bool} {held : Bool} {t : TypeId} {f0 f1 f2 f3 f4 f5 : Field} {fuel : Nat} {cs : List Value} {x : DataW H × List MemPlace} (ht : P.underlying t = some (.struct #[f0, f1, f2, f3, f4, f5])) (h : DataW.trod enc P w base spare held fuel t cs = some x) :
    ∃ y0 y1 y2 y3 y4 y5 n, cs.length = P.cellsOf t ∧ DataW.trod enc P w base spare held n f0.type ((cs.drop f0.offset).take (P.cellsOf f0.type)) = some y0 ∧
      DataW.trod enc P w base spare held n f1.type ((cs.drop f1.offset).take (P.cellsOf f1.type)) = some y1 ∧ DataW.trod enc P w base spare held n f2.type ((cs.drop f2.offset).take (P.cellsOf f2.type)) = some y2 ∧
      DataW.trod enc P w base spare held n f3.type ((cs.drop f3.offset).take (P.cellsOf f3.type)) = some y3 ∧ DataW.trod enc P w base spare held n f4.type ((cs.drop f4.offset).take (P.cellsOf f4.type)) = some y4 ∧ DataW.trod enc P w base spare held n f5.type ((cs.drop f5.offset).take (P.cellsOf f5.type)) = some y5 := by
  obtain ⟨xs, n, _, rfl, hl, hlen, hf⟩ := DataW.trod_struct ht h
  match xs, hlen with
  | [y0, y1, y2, y3, y4, y5], _ => exact ⟨y0, y1, y2, y3, y4, y5, n, hl, by simpa using hf 0 f0 rfl, by simpa using hf 1 f1 rfl, by simpa using hf 2 f2 rfl, by simpa using hf 3 f3 rfl, by simpa using hf 4 f4 rfl, by simpa using hf 5 f5 rfl⟩

theorem colZ_cells {H : Type} {enc : TypeId × Value → H} {W : World} {b : Nat} {sp : Nat → Bool} {held : Bool} {fuel : Nat} {c0 c1 c2 c3 : Value} {x : DataW H × List MemPlace} (h : DataW.trod enc Tryz.prog W b sp held fuel 46 [c0, c1, c2, c3] = some x) :
    ∃ c : Co, c0 = .int .u8 c.r ∧ c1 = .int .u8 c.g ∧ c2 = .int .u8 c.b ∧ c3 = .int .u8 c.a ∧ c.ok := by
  obtain ⟨y0, y1, y2, y3, n, _, _, h0, h1, h2, h3⟩ := trod_struct4 Tryz.underlying46 h
  simp [cells_u8] at h0 h1 h2 h3
  obtain ⟨a0, e0, _, w0⟩ := DataW.trod_int Tryz.underlying5 h0
  obtain ⟨a1, e1, _, w1⟩ := DataW.trod_int Tryz.underlying5 h1
  obtain ⟨a2, e2, _, w2⟩ := DataW.trod_int Tryz.underlying5 h2
  obtain ⟨a3, e3, _, w3⟩ := DataW.trod_int Tryz.underlying5 h3
  simp at e0 e1 e2 e3
  have b0 := bounds_u8 w0
  have b1 := bounds_u8 w1
  have b2 := bounds_u8 w2
  have b3 := bounds_u8 w3
  refine ⟨⟨a0, a1, a2, a3⟩, e0, e1, e2, e3, ?_⟩
  unfold Co.ok By
  dsimp only
  omega

set_option maxRecDepth 100000 in
theorem rectZ_cells {H : Type} {enc : TypeId × Value → H} {W : World} {b : Nat} {sp : Nat → Bool} {held : Bool} {fuel : Nat} {cs : List Value} {x : DataW H × List MemPlace} (h : DataW.trod enc Tryz.prog W b sp held fuel 44 cs = some x) :
    ∃ r : Rc, cs = [.int .i64 r.x, .int .i64 r.y, .int .i64 r.w, .int .i64 r.h] ∧ I64 r.x ∧ I64 r.y ∧ I64 r.w ∧ I64 r.h := by
  obtain ⟨y0, y1, n, _, hl, h0, h1⟩ := trod_struct2 Tryz.underlying44 h
  rw [cells_r] at hl
  match cs, hl with
  | [c0, c1, c2, c3], _ =>
    simp [cells_p, cells_s] at h0 h1
    obtain ⟨y00, y01, n0, _, _, h00, h01⟩ := trod_struct2 Tryz.underlying40 h0
    obtain ⟨y10, y11, n1, _, _, h10, h11⟩ := trod_struct2 Tryz.underlying42 h1
    simp [cells_i] at h00 h01 h10 h11
    obtain ⟨a0, e0, _, w0⟩ := DataW.trod_int Tryz.underlying3 h00
    obtain ⟨a1, e1, _, w1⟩ := DataW.trod_int Tryz.underlying3 h01
    obtain ⟨a2, e2, _, w2⟩ := DataW.trod_int Tryz.underlying3 h10
    obtain ⟨a3, e3, _, w3⟩ := DataW.trod_int Tryz.underlying3 h11
    simp at e0 e1 e2 e3
    subst e0 e1 e2 e3
    exact ⟨⟨a0, a1, a2, a3⟩, rfl, i64_of w0, i64_of w1, i64_of w2, i64_of w3⟩

set_option maxRecDepth 100000 in
theorem stroke_cells {H : Type} {enc : TypeId × Value → H} {W : World} {b : Nat} {sp : Nat → Bool} {held : Bool} {fuel : Nat} {cs : List Value} {x : DataW H × List MemPlace} (h : DataW.trod enc Tryz.prog W b sp held fuel 48 cs = some x) :
    ∃ s : St, cs = sCel s ∧ WfS s := by
  obtain ⟨y0, y1, y2, y3, y4, y5, n, hl, h0, h1, h2, h3, h4, h5⟩ := trod_struct6 Tryz.underlying48 h
  rw [cells_st] at hl
  match cs, hl with
  | [c0, c1, c2, c3, c4, c5, c6, c7, c8, c9, c10, c11, c12, c13, c14], _ =>
    simp [cells_u8, cells_r, cells_c, cells_t, cells_i] at h0 h1 h2 h3 h4 h5
    obtain ⟨a0, e0, _, w0⟩ := DataW.trod_int Tryz.underlying5 h0
    obtain ⟨r, er, i1, i2, i3, i4⟩ := rectZ_cells h1
    obtain ⟨c, d0, d1, d2, d3, okc⟩ := colZ_cells h2
    obtain ⟨k, f0, f1, f2, f3, okk⟩ := colZ_cells h3
    obtain ⟨t, et, _, wt⟩ := DataW.trod_string Tryz.underlying9 h4
    obtain ⟨m, em, _, wm⟩ := DataW.trod_int Tryz.underlying3 h5
    simp at e0 er et em
    obtain ⟨r1, r2, r3, r4⟩ := er
    have hb := bounds_u8 w0
    refine ⟨⟨a0, r, c, k, t, m⟩, ?_, ⟨by dsimp only; omega, by dsimp only; omega⟩, ⟨i1, i2, i3, i4⟩, okc, okk, wt, i64_of wm⟩
    rw [e0, r1, r2, r3, r4, d0, d1, d2, d3, f0, f1, f2, f3, et, em]
    rfl

theorem strokes_of {W : World} {g o : Nat} : ∀ (n : Nat), (∀ i, i < n → ∃ s : St, StAt W g (o + i * 15) s ∧ WfS s) → ∃ l : List St, l.length = n ∧ (∀ i (h : i < l.length), StAt W g (o + i * 15) l[i]) ∧ Wfs l
  | 0, _ => ⟨[], rfl, fun i h => absurd h (Nat.not_lt_zero i), fun r hr => by simp at hr⟩
  | n + 1, h => by
    obtain ⟨rs, hl, ha, hw⟩ := strokes_of n fun i hi => h i (by omega)
    obtain ⟨r, hr, hz⟩ := h n (by omega)
    refine ⟨rs ++ [r], by simp [hl], fun i hi => ?_, fun x hx => ?_⟩
    · by_cases e : i < rs.length
      · rw [List.getElem_append_left e]; exact ha i e
      · have : i = n := by simp at hi; omega
        subst this
        subst hl
        rw [List.getElem_concat_length rfl]
        exact hr
    · rcases List.mem_append.1 hx with hx | hx
      · exact hw x hx
      · simp at hx; subst hx; exact hz

set_option maxRecDepth 100000 in
theorem open_strokes {H : Type} {enc : TypeId × Value → H} {W : World} {base b : Nat} {sp : Nat → Bool} {held : Bool} {v : Value} {d : DataW H} {p : List MemPlace}
    (hv : Value.okWide Tryz.prog W .any base 22 v) (h : DataW.Trod enc Tryz.prog W b sp held 22 v d p) : ∃ l : List St, LsS W v l ∧ Wfs l ∧ NoNil v := by
  obtain ⟨oa, len, cap, rfl⟩ := okWide_slice Tryz.underlying22 hv
  obtain ⟨fuel, hf⟩ := h
  rcases DataW.trod_slice Tryz.underlying22 hf with ⟨he, _⟩ | ⟨a, len', cap', el, rest, n, _, he, _, _, hlc, hcm, hel, hat, _, _⟩
  · simp [Value.cells] at he
    obtain ⟨rfl, rfl, rfl⟩ := he
    exact ⟨[], ⟨none, 0, rfl, Nat.le_refl _, fun h => by simp at h⟩, fun r hr => by simp at hr, fun c hc => by injection hc with _ _ h; exact h.symm⟩
  · simp [Value.cells] at he
    obtain ⟨rfl, rfl, rfl⟩ := he
    have hnn : NoNil (.slice (some a) len cap) := fun c hc => by injection hc with h1 _ _; cases h1
    rw [cells_st] at hat
    obtain ⟨g, o, s⟩ := a
    have key : ∀ i, i < len → ∃ r : St, (∀ j, j < 15 → W.cell? ((Addr.mk g o s).add (i * 15) |>.add j) = (sCel r)[j]?) ∧ WfS r := by
      intro i hi
      have h1 := hat i hi
      obtain ⟨bb, hb⟩ : ∃ bb, el[i]? = some bb := ⟨el[i]'(by omega), List.getElem?_eq_getElem (by omega)⟩
      rw [hb] at h1
      obtain ⟨ce, hce, hte⟩ := Option.bind_eq_some_iff.1 h1
      obtain ⟨r, hr, hw⟩ := stroke_cells hte
      obtain ⟨_, _, hcc⟩ := World.cells?_some hce
      exact ⟨r, fun j hj => by rw [hcc j hj, hr], hw⟩
    by_cases h0 : len = 0
    · subst h0
      exact ⟨[], ⟨_, cap, rfl, Nat.zero_le _, fun h => by simp at h⟩, fun r hr => by simp at hr, hnn⟩
    obtain rfl : s = none := by
      obtain ⟨r, hr, _⟩ := key 0 (by omega)
      have h00 := hr 0 (by omega)
      have : (Addr.add (Addr.add ⟨g, o, s⟩ (0 * 15)) 0) = ⟨g, o, s⟩ := by simp [Addr.add]
      rw [this] at h00
      exact Go.Proofs.cell_spot h00
    obtain ⟨rs, hl, ha, hw⟩ := strokes_of (W := W) (g := g) (o := o) len fun i hi => by
      obtain ⟨r, hr, hz⟩ := key i hi
      have e := fun j hj => hr j hj
      simp only [Addr.add_lit] at e
      exact ⟨r, stat_iff.2 e, hz⟩
    subst hl
    have hg : g < W.heap.size := by
      have h1 := (ha 0 (by omega)).1
      rcases Nat.lt_or_ge g W.heap.size with h' | h'
      · exact h'
      · simp [World.cell?, Array.getElem?_eq_none h'] at h1
    exact ⟨rs, ⟨_, cap, rfl, hlc, fun _ => ⟨g, o, rfl, hg, ha⟩⟩, hw, hnn⟩

set_option maxRecDepth 100000 in
theorem open_pt {H : Type} {enc : TypeId × Value → H} {W : World} {base b : Nat} {sp : Nat → Bool} {held : Bool} {v : Value} {d : DataW H} {p : List MemPlace}
    (hv : Value.okWide Tryz.prog W .any base 40 v) (h : DataW.Trod enc Tryz.prog W b sp held 40 v d p) : ∃ x y : Int, v = .agg #[.int .i64 x, .int .i64 y] ∧ I64 x ∧ I64 y := by
  obtain ⟨c0, c1, y0, y1, m, rfl, rfl, rfl, hy0, hy1⟩ := open_agg2 Tryz.underlying40 (by kernel_rfl) cells_p hv h
  obtain ⟨a, e0, rfl, wa⟩ := DataW.trod_int Tryz.underlying3 hy0
  obtain ⟨c, e1, rfl, wc⟩ := DataW.trod_int Tryz.underlying3 hy1
  simp at e0 e1
  subst e0 e1
  exact ⟨a, c, rfl, i64_of wa, i64_of wc⟩

end Go.Proofs.YtbghjmkgicdnoaaGreat

/-
  What the statements of layer 13 ask of package list: each call tells the document's answer.
-/
namespace Go.Proofs.YtbghjmkgicdnoaaGreat
open Go.RowKit

/-- What is asked of Check. -/
def LCheck : Prop := ∀ (l : List St) (v : Value) (w : World), LsS w v l → Wfs l → Calls Tryz.prog 11 #[v] w fun e w' => e = .returned (.int .i64 (chkS l)) ∧ Below w.heap.size w w'

def LFlat : Prop := ∀ (l : List St) (v : Value) (w : World), LsS w v l → Wfs l → Calls Tryz.prog 7 #[v] w fun e w' => AnsF w l e w'

def LBound : Prop := ∀ (l : List St) (v : Value) (w : World), LsS w v l → Wfs l → Calls Tryz.prog 9 #[v] w fun e w' => Ans w (bouL l) (bouE l) e w'

def LNorm : Prop := ∀ (l : List St) (v : Value) (w : World), LsS w v l → Wfs l → Calls Tryz.prog 18 #[v] w fun e w' => AnsS w (norE l) (chkS l) e w'

def LWithin : Prop := ∀ (l : List St) (r : List Rc) (v vr : Value) (w : World), LsS w v l → LsR w vr r → Wfs l → I64s r → NoNil vr → Calls Tryz.prog 20 #[v, vr] w fun e w' => AnsS w (witG l r) (witE l r) e w'

def LSame : Prop := ∀ (a b : List St) (va vb : Value) (w : World), LsS w va a → LsS w vb b → a.length ≤ 20000 → Calls Tryz.prog 17 #[va, vb] w fun e w' => e = .returned (.bool (samZ a b)) ∧ Below w.heap.size w w'

theorem LenS.nonil {g n cap : Nat} : NoNil (.slice (some ⟨g, 0, none⟩) n cap) := fun c hc => by injection hc with h1 _ _; cases h1
/-- A row that lies elsewhere than what is written over. -/
theorem OwR.far {lo : Nat} {W W' : World} {v : Value} {rs : List Rc} {ob : Option Nat} (h : OwR lo W v rs) (hg : W.grownBy W' ob) (hf : ∀ g, v.ownBlock = some g → ob ≠ some g) : OwR lo W' v rs := by
  refine World.ownsRow.kept h hg ?_
  cases e : v.ownBlock with
  | none => exact .inl rfl
  | some g => exact .inr fun c => hf g e c.symm
theorem OwS.far {lo : Nat} {W W' : World} {v : Value} {rs : List St} {ob : Option Nat} (h : OwS lo W v rs) (hg : W.grownBy W' ob) (hf : ∀ g, v.ownBlock = some g → ob ≠ some g) : OwS lo W' v rs := by
  refine World.ownsRow.kept h hg ?_
  cases e : v.ownBlock with
  | none => exact .inl rfl
  | some g => exact .inr fun c => hf g e c.symm
theorem LenS.far {lo hi : Nat} {W W' : World} {v : Value} {rs : List St} {ob : Option Nat} (h : LenS lo hi W v rs) (hg : W.grownBy W' ob) (hf : ∀ g, ob = some g → hi ≤ g) : LenS lo hi W' v rs :=
  ⟨h.1.far hg fun g e c => by have := h.2 g e; have := hf g c; omega, h.2⟩
theorem fla1_len {l : List St} (h : l.length ≤ 20000) : (fla1 l).length ≤ 20000 := by
  unfold fla1
  split
  · rw [List.length_map]
    unfold flaL
    have := List.length_filter_le (fun p : St × Rc => drw p.1) (ann [] l)
    rw [ann_len] at this
    omega
  · simp
theorem fla2_len {l : List St} (h : l.length ≤ 20000) : (fla2 l).length ≤ 20000 := by
  unfold fla2
  split
  · rw [List.length_map]
    unfold flaL
    have := List.length_filter_le (fun p : St × Rc => drw p.1) (ann [] l)
    rw [ann_len] at this
    omega
  · simp
theorem norE_len {l : List St} (h : l.length ≤ 20000) : (norE l).length ≤ 20000 := by
  unfold norE
  split
  · have := norL_len l
    omega
  · simp
theorem witG_len (l : List St) (r : List Rc) : (witG l r).length ≤ 20000 := by
  unfold witG
  split
  · next h =>
    unfold witE at h
    split at h
    · split at h
      · split at h
        · cases h
        · omega
      · next h1 h2 => exact absurd h h2
    · next h1 => exact absurd h h1
  · simp
theorem joiL_len (a b : List St) : (joiL a b).length ≤ 20000 := by
  unfold joiL
  split
  · next h =>
    unfold joiE at h
    split at h
    · split at h
      · split at h
        · cases h
        · rw [List.length_append]; omega
      · next h1 h2 => exact absurd h h2
    · next h1 => exact absurd h h1
  · simp
theorem movG_len {l : List St} (h : l.length ≤ 20000) (p q : Int) : (movG l p q).length ≤ 20000 := by
  unfold movG
  split
  · rw [List.length_map]; exact h
  · simp
theorem ansL_len (e : Int) (F : List Rc) : (ansL e F).length ≤ 1024 := by
  unfold ansL
  split
  · next h => exact h.2
  · simp
theorem bouL_len (l : List St) : (bouL l).length ≤ 1024 := by
  unfold bouL
  split
  · exact ansL_len _ _
  · simp

end Go.Proofs.YtbghjmkgicdnoaaGreat

/-
  The walk of ListFlats.
-/
namespace Go.Proofs.YtbghjmkgicdnoaaGreat
open Go.RowKit

/-- What lies there. -/
structure FlS (n0 n1 n2 : Nat) (w w1 : World) (vl x a b c d r s : Value) (l : List St) (W : World) : Prop where
  fl : LsS W vl l
  fx : LenS n0 n1 W x l
  fa : OwS n1 W a (fla1 l)
  fah : ∀ g, a.ownBlock = some g → g < n2
  fb : OwR n1 W b (fla2 l)
  fab : Apt a b
  fc : OwS n2 W c (fla1 l)
  fd : OwR n2 W d (fla2 l)
  fr : OwR n2 W r (bouL l)
  fs : OwR n2 W s (bouL l)
  fw : Below n0 w W
  fw1 : Below n1 w1 W
theorem FlS.below {n0 n1 n2 : Nat} {w w1 : World} {vl x a b c d r s : Value} {l : List St} {W W' : World} (h : FlS n0 n1 n2 w w1 vl x a b c d r s l W) (h0 : n0 ≤ W.heap.size) (h1 : n1 ≤ W.heap.size) (hb : Below W.heap.size W W') : FlS n0 n1 n2 w w1 vl x a b c d r s l W' :=
  ⟨h.fl.below hb, h.fx.below hb, h.fa.below hb, h.fah, h.fb.below hb, h.fab, h.fc.below hb, h.fd.below hb, h.fr.below hb, h.fs.below hb, h.fw.trans (hb.mono h0), h.fw1.trans (hb.mono h1)⟩

set_option maxRecDepth 20000 in
set_option maxHeartbeats 8000000 in
theorem flats_walk (CC : LCheck) (CF : LFlat) (CB : LBound) (CS : LSame) (l : List St) (v : Value) (w : World) (hv : LsS w v l) (hn : NoNil v) (hw : Wfs l) :
    Calls Tryz.prog 3 #[v] w fun e w' => e = .returned (.bool true) ∧ Below w.heap.size w w' := by
  have HC : Hid (LCheck ∧ LFlat ∧ LBound ∧ LSame) := ⟨CC, CF, CB, CS⟩
  have HW : Hid (Wfs l ∧ LsS w v l ∧ NoNil v) := ⟨hw, hv, hn⟩
  obtain ⟨oa, cap, rfl, hc, _⟩ := hv
  obtain ⟨n, hnn⟩ : ∃ n, n = l.length := ⟨_, rfl⟩
  have HN : Hid (n = l.length) := hnn
  rw [← hnn] at hc HW ⊢
  clear CC CF CB CS hn hw hnn
  cases hlo : lonB n with
  | true =>
    have HLo : Hid (Calls Tryz.prog 5 #[.slice oa n cap] w fun e w' => e = .returned (.bool true) ∧ Below w.heap.size w w') := by rw [← hlo]; exact long_any oa n cap w
    go_enter Tryz.func3, Tryz.ntmps3
    go_wp2_with fail
    refine HLo.out.mono ?_
    rintro e w1 ⟨rfl, hbz⟩
    have HBz : Hid (Below w.heap.size w w1) := hbz
    clear hbz
    go_wp2
    go_ret
    exact ⟨rfl, HBz.out⟩
  | false =>
    have HLo : Hid (Calls Tryz.prog 5 #[.slice oa n cap] w fun e w' => e = .returned (.bool false) ∧ Below w.heap.size w w') := by rw [← hlo]; exact long_any oa n cap w
    have hl : n ≤ 17000 := by
      unfold lonB at hlo
      simp at hlo
      omega
    have HL2 : Hid (l.length ≤ 20000) := by have := HN.out; unfold Hid; omega
    clear hlo
    go_enter Tryz.func3, Tryz.ntmps3
    go_wp2_with fail
    refine HLo.out.mono ?_
    rintro e wa ⟨rfl, hba⟩
    have HA : Hid (Below w.heap.size w wa) := hba
    clear hba
    go_wp2_with fail
    refine (own_any l _ wa (HW.out.2.1.below HA.out) HW.out.2.2 HL2.out).mono ?_
    rintro e w1 ⟨x, rfl, hx, hb1⟩
    obtain ⟨gx, cx, rfl, hcx, -⟩ := hx.val
    have H1 : Hid (LsS w1 (.slice oa n cap) l ∧ LenS w.heap.size w1.heap.size w1 (.slice (some ⟨gx, 0, none⟩) (l.length + 1) cx) l ∧ Below w.heap.size w w1) := by
      have b1 : Below w.heap.size w w1 := HA.out.trans (hb1.mono HA.out.size)
      exact ⟨HW.out.2.1.below b1, ⟨hx.1.weaken HA.out.size, hx.2⟩, b1⟩
    clear hx hb1 HA HLo
    rw [← HN.out] at H1 hcx ⊢
    have HX1 : Hid (∀ W, LenS w.heap.size w1.heap.size W (.slice (some ⟨gx, 0, none⟩) (n + 1) cx) l → LsS W (.slice (some ⟨gx, 0, none⟩) n cx) l) := fun W h => by have q := h.lss; rw [← HN.out] at q; exact q
    go_wp2_with fail
    refine (HC.out.2.1 l _ w1 (HX1.out _ H1.out.2.1) HW.out.1).mono ?_
    rintro e w2 ⟨a, b, rfl, hab⟩
    have H2 : Hid (LsS w2 (.slice oa n cap) l ∧ LenS w.heap.size w1.heap.size w2 (.slice (some ⟨gx, 0, none⟩) (n + 1) cx) l ∧ Below w.heap.size w w2 ∧ OwS w1.heap.size w2 a (fla1 l) ∧ OwR w1.heap.size w2 b (fla2 l) ∧ Apt a b ∧ Below w1.heap.size w1 w2) := by
      obtain ⟨q1, q2, q3, q4⟩ := hab.out
      obtain ⟨r1, r2, r3⟩ := H1.out
      exact ⟨r1.below q4, r2.below q4, r3.trans (q4.mono r3.size), q1, q2, q3, q4⟩
    clear hab H1
    go_wp2_with fail
    refine (zflat_any l _ w2 H2.out.1 HW.out.1.txs).mono ?_
    rintro e w3 ⟨c, d, rfl, hcd⟩
    have H3 : Hid (LsS w3 (.slice oa n cap) l ∧ LenS w.heap.size w1.heap.size w3 (.slice (some ⟨gx, 0, none⟩) (n + 1) cx) l ∧ Below w.heap.size w w3 ∧ OwS w1.heap.size w3 a (fla1 l) ∧ OwR w1.heap.size w3 b (fla2 l) ∧ Apt a b ∧ Below w1.heap.size w1 w3 ∧ OwS w2.heap.size w3 c (fla1 l) ∧ OwR w2.heap.size w3 d (fla2 l) ∧ (∀ g, a.ownBlock = some g → g < w2.heap.size) ∧ w1.heap.size ≤ w2.heap.size ∧ w2.heap.size ≤ w3.heap.size) := by
      obtain ⟨q1, q2, q3, q4⟩ := hcd.out
      obtain ⟨r1, r2, r3, r4, r5, r6, r7⟩ := H2.out
      exact ⟨r1.below q4, r2.below q4, r3.trans (q4.mono r3.size), r4.below q4, r5.below q4, r6, r7.trans (q4.mono r7.size), q1, q2, (fun g hg => (row_lt r4 g hg).2), r7.size, q4.size⟩
    clear hcd H2
    go_wp2_with fail
    refine (HC.out.2.2.1 l _ w3 (HX1.out _ H3.out.2.1) HW.out.1).mono ?_
    rintro e w4 ⟨r, rfl, hr, hb4⟩
    have H4 : Hid (LsS w4 (.slice oa n cap) l ∧ LenS w.heap.size w1.heap.size w4 (.slice (some ⟨gx, 0, none⟩) (n + 1) cx) l ∧ Below w.heap.size w w4 ∧ OwS w1.heap.size w4 a (fla1 l) ∧ OwR w1.heap.size w4 b (fla2 l) ∧ Apt a b ∧ Below w1.heap.size w1 w4 ∧ OwS w2.heap.size w4 c (fla1 l) ∧ OwR w2.heap.size w4 d (fla2 l) ∧ (∀ g, a.ownBlock = some g → g < w2.heap.size) ∧ OwR w2.heap.size w4 r (bouL l) ∧ w1.heap.size ≤ w2.heap.size ∧ w2.heap.size ≤ w4.heap.size) := by
      obtain ⟨r1, r2, r3, r4, r5, r6, r7, r8, r9, r10, r11, r12⟩ := H3.out
      have hr : OwR w3.heap.size w4 r (bouL l) := hr
      exact ⟨r1.below hb4, r2.below hb4, r3.trans (hb4.mono r3.size), r4.below hb4, r5.below hb4, r6, r7.trans (hb4.mono r7.size), r8.below hb4, r9.below hb4, r10, hr.weaken r12, r11, Nat.le_trans r12 hb4.size⟩
    clear hr hb4 H3
    go_wp2_with fail
    refine (zbound_any l _ w4 H4.out.1 HW.out.1.txs).mono ?_
    rintro e w5 ⟨s, rfl, hs, hb5⟩
    have H5 : Hid (FlS w.heap.size w1.heap.size w2.heap.size w w1 (.slice oa n cap) (.slice (some ⟨gx, 0, none⟩) (n + 1) cx) a b c d r s l w5) := by
      obtain ⟨r1, r2, r3, r4, r5, r6, r7, r8, r9, r10, r11, r12, r13⟩ := H4.out
      have hs : OwR w4.heap.size w5 s (bouL l) := hs
      exact ⟨r1.below hb5, r2.below hb5, r4.below hb5, r10, r5.below hb5, r6, r8.below hb5, r9.below hb5, r11.below hb5, hs.weaken r13, r3.trans (hb5.mono r3.size), r7.trans (hb5.mono r7.size)⟩
    have HS : Hid (w.heap.size ≤ w1.heap.size ∧ w1.heap.size ≤ w2.heap.size) := ⟨by
      have h := H4.out.2.1
      obtain ⟨_, _, _, _, _, q1, q2⟩ := h.val
      omega, H4.out.2.2.2.2.2.2.2.2.2.2.2.1⟩
    clear hs hb5 H4
    have HB : Hid (∀ W W', FlS w.heap.size w1.heap.size w2.heap.size w w1 (.slice oa n cap) (.slice (some ⟨gx, 0, none⟩) (n + 1) cx) a b c d r s l W → Below W.heap.size W W' → FlS w.heap.size w1.heap.size w2.heap.size w w1 (.slice oa n cap) (.slice (some ⟨gx, 0, none⟩) (n + 1) cx) a b c d r s l W') := fun W W' h hb => h.below h.fw.size h.fw1.size hb
    go_wp2_with fail
    refine (HC.out.1 l _ w5 (HX1.out _ H5.out.fx) HW.out.1).mono ?_
    rintro e w6 ⟨rfl, hb6⟩
    have H6 : Hid (FlS w.heap.size w1.heap.size w2.heap.size w w1 (.slice oa n cap) (.slice (some ⟨gx, 0, none⟩) (n + 1) cx) a b c d r s l w6) := HB.out _ _ H5.out hb6
    clear hb6 H5
    go_wp2_with fail
    refine (zcheck_any l _ w6 H6.out.fl HW.out.1.txs).mono ?_
    rintro e w7 ⟨rfl, hb7⟩
    have H7 : Hid (FlS w.heap.size w1.heap.size w2.heap.size w w1 (.slice oa n cap) (.slice (some ⟨gx, 0, none⟩) (n + 1) cx) a b c d r s l w7) := HB.out _ _ H6.out hb7
    clear hb7 H6
    have HSa : Hid (∀ W, FlS w.heap.size w1.heap.size w2.heap.size w w1 (.slice oa n cap) (.slice (some ⟨gx, 0, none⟩) (n + 1) cx) a b c d r s l W → Calls Tryz.prog 13 #[a, c] W fun e w' => e = .returned (.bool true) ∧ Below W.heap.size W w') := fun W h => by
      have q := zsame_any _ _ a c W h.fa.lss h.fc.lss (by have := fla1_len HL2.out; omega)
      rw [samZ_self] at q
      exact q
    have HSb : Hid (∀ W, OwR w1.heap.size W b (fla2 l) → OwR w2.heap.size W d (fla2 l) → Calls Tryz.prog 14 #[b, d] W fun e w' => e = .returned (.bool true) ∧ Below W.heap.size W w') := fun W h1 h2 => by
      have q := sameR_any _ _ b d W (lsr_own h1) (lsr_own h2) (by have := fla2_len HL2.out; omega)
      rw [(sameB_iff _ _).2 rfl] at q
      exact q
    have HSr : Hid (∀ W, FlS w.heap.size w1.heap.size w2.heap.size w w1 (.slice oa n cap) (.slice (some ⟨gx, 0, none⟩) (n + 1) cx) a b c d r s l W → Calls Tryz.prog 14 #[r, s] W fun e w' => e = .returned (.bool true) ∧ Below W.heap.size W w') := fun W h => by
      have q := sameR_any _ _ r s W (lsr_own h.fr) (lsr_own h.fs) (by have := bouL_len l; omega)
      rw [(sameB_iff _ _).2 rfl] at q
      exact q
    generalize chkS l = E1 at *
    generalize bouE l = E2 at *
    go_wp2_with fail
    refine (HSa.out _ H7.out).mono ?_
    rintro e w8 ⟨rfl, hb8⟩
    have H8 : Hid (FlS w.heap.size w1.heap.size w2.heap.size w w1 (.slice oa n cap) (.slice (some ⟨gx, 0, none⟩) (n + 1) cx) a b c d r s l w8) := HB.out _ _ H7.out hb8
    clear hb8 H7
    go_wp2_with fail
    refine (HSb.out _ H8.out.fb H8.out.fd).mono ?_
    rintro e w9 ⟨rfl, hb9⟩
    have H9 : Hid (FlS w.heap.size w1.heap.size w2.heap.size w w1 (.slice oa n cap) (.slice (some ⟨gx, 0, none⟩) (n + 1) cx) a b c d r s l w9) := HB.out _ _ H8.out hb9
    clear hb9 H8
    go_wp2_with fail
    refine (HSr.out _ H9.out).mono ?_
    rintro e w10 ⟨rfl, hb10⟩
    have H10 : Hid (FlS w.heap.size w1.heap.size w2.heap.size w w1 (.slice oa n cap) (.slice (some ⟨gx, 0, none⟩) (n + 1) cx) a b c d r s l w10) := HB.out _ _ H9.out hb10
    clear hb10 H9
    go_wp2_with fail
    refine (spoil_any _ _ a w10 H10.out.fa (fla1_len HL2.out)).mono ?_
    rintro e w11 ⟨rfl, hg⟩
    have H11 : Hid (LsS w11 (.slice oa n cap) l ∧ LenS w.heap.size w1.heap.size w11 (.slice (some ⟨gx, 0, none⟩) (n + 1) cx) l ∧ OwR w1.heap.size w11 b (fla2 l) ∧ OwR w2.heap.size w11 d (fla2 l) ∧ Below w.heap.size w w11) := by
      obtain ⟨f1, f2, f3, f4, f5, f6, f7, f8, f9, f10, f11, f12⟩ := H10.out
      have ha : ∀ g, a.ownBlock = some g → w1.heap.size ≤ g := fun g hg => (row_lt f3 g hg).1
      have b0 : Below w.heap.size w w11 := f11.grown hg f11.size (fun g h => Nat.le_trans HS.out.1 (ha g h))
      refine ⟨HW.out.2.1.below b0, f2.far hg ha, f5.far hg fun g h c => f6 g c h, f8.far hg fun g h c => ?_, b0⟩
      have h1 := f4 g c
      have h2 := (row_lt f8 g h).1
      omega
    clear hg H10 HSa HSr HB
    go_wp2_with fail
    refine (kept_any _ _ l _ _ w11 H11.out.2.1 H11.out.1 HL2.out).mono ?_
    rintro e w12 ⟨rfl, hb12⟩
    have H12 : Hid (LsS w12 (.slice oa n cap) l ∧ LenS w.heap.size w1.heap.size w12 (.slice (some ⟨gx, 0, none⟩) (n + 1) cx) l ∧ OwR w1.heap.size w12 b (fla2 l) ∧ OwR w2.heap.size w12 d (fla2 l) ∧ Below w.heap.size w w12) := ⟨H11.out.1.below hb12, H11.out.2.1.below hb12, H11.out.2.2.1.below hb12, H11.out.2.2.2.1.below hb12, H11.out.2.2.2.2.trans (hb12.mono H11.out.2.2.2.2.size)⟩
    clear hb12 H11
    have HSl : Hid (Calls Tryz.prog 17 #[.slice (some ⟨gx, 0, none⟩) n cx, .slice oa n cap] w12 fun e w' => e = .returned (.bool true) ∧ Below w12.heap.size w12 w') := by
      have q := HC.out.2.2.2 l l _ _ w12 (HX1.out _ H12.out.2.1) H12.out.1 HL2.out
      rw [samZ_self] at q
      exact q
    go_wp2_with fail
    refine HSl.out.mono ?_
    rintro e w13 ⟨rfl, hb13⟩
    have H13 : Hid (OwR w1.heap.size w13 b (fla2 l) ∧ OwR w2.heap.size w13 d (fla2 l) ∧ Below w.heap.size w w13) := ⟨H12.out.2.2.1.below hb13, H12.out.2.2.2.1.below hb13, H12.out.2.2.2.2.trans (hb13.mono H12.out.2.2.2.2.size)⟩
    clear hb13 H12
    go_wp2_with fail
    refine (HSb.out _ H13.out.1 H13.out.2.1).mono ?_
    rintro e w14 ⟨rfl, hb14⟩
    have HBz : Hid (Below w.heap.size w w14) := H13.out.2.2.trans (hb14.mono H13.out.2.2.size)
    clear hb14
    go_wp2
    go_ret
    exact ⟨rfl, HBz.out⟩

end Go.Proofs.YtbghjmkgicdnoaaGreat
