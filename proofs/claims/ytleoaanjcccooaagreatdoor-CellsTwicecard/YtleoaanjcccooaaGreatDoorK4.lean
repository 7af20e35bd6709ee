/-
  Texts of this claim, one behind the other: what each is about stands ahead of it.
-/
import Derived.Test.YtleoaanjcccooaaGreatDoorK3
import Derived.Shelf.LaysM
import Derived.Test.YtleoaanjcccooaaGreatDoorProg
/-
  A list of strokes, a point that came in: written out.
-/
namespace Go.Proofs.YtleoaanjcccooaaGreatDoor
open Go.ChangeShapes Go.WideShapes Go.ChangeAt Go.RowKit Go.Joins

theorem cells_c : Tryz.prog.cellsOf 45 = 4 := by kernel_rfl
theorem cells_u8 : Tryz.prog.cellsOf 5 = 1 := by kernel_rfl
theorem cells_t : Tryz.prog.cellsOf 9 = 1 := by kernel_rfl
theorem cells_st : Tryz.prog.cellsOf 58 = 15 := by kernel_rfl

theorem trod_struct6 {H : Type} {enc : TypeId × Value → H} {P : Program} {w : World} {base : Nat} {spare : Nat → Bool} {held : Bool} {t : TypeId} {f0 f1 f2 f3 f4 f5 : Field} {fuel : Nat} {cs : List Value} {x : DataW H × List MemPlace} (ht : P.underlying t = some (.struct #[f0, f1, f2, f3, f4, f5])) (h : DataW.trod enc P w base spare held fuel t cs = some x) :
    ∃ y0 y1 y2 y3 y4 y5 n, cs.length = P.cellsOf t ∧ DataW.trod enc P w base spare held n f0.type ((cs.drop f0.offset).take (P.cellsOf f0.type)) = some y0 ∧
      DataW.trod enc P w base spare held n f1.type ((cs.drop f1.offset).take (P.cellsOf f1.type)) = some y1 ∧ DataW.trod enc P w base spare held n f2.type ((cs.drop f2.offset).take (P.cellsOf f2.type)) = some y2 ∧
      DataW.trod enc P w base spare held n f3.type ((cs.drop f3.offset).take (P.cellsOf f3.type)) = some y3 ∧ DataW.trod enc P w base spare held n f4.type ((cs.drop f4.offset).take (P.cellsOf f4.type)) = some y4 ∧ DataW.trod enc P w base spare held n f5.type ((cs.drop f5.offset).take (P.cellsOf f5.type)) = some y5 := by
  obtain ⟨xs, n, _, rfl, hl, hlen, hf⟩ := DataW.trod_struct ht h
  match xs, hlen with
  | [y0, y1, y2, y3, y4, y5], _ => exact ⟨y0, y1, y2, y3, y4, y5, n, hl, by simpa using hf 0 f0 rfl, by simpa using hf 1 f1 rfl, by simpa using hf 2 f2 rfl, by simpa using hf 3 f3 rfl, by simpa using hf 4 f4 rfl, by simpa using hf 5 f5 rfl⟩

theorem colZ_cells {H : Type} {enc : TypeId × Value → H} {W : World} {b : Nat} {sp : Nat → Bool} {held : Bool} {fuel : Nat} {c0 c1 c2 c3 : Value} {x : DataW H × List MemPlace} (h : DataW.trod enc Tryz.prog W b sp held fuel 45 [c0, c1, c2, c3] = some x) :
    ∃ c : Co, c0 = .int .u8 c.r ∧ c1 = .int .u8 c.g ∧ c2 = .int .u8 c.b ∧ c3 = .int .u8 c.a ∧ c.ok := by
  obtain ⟨y0, y1, y2, y3, n, _, _, h0, h1, h2, h3⟩ := trod_struct4 Tryz.underlying45 h
  simp [cells_u8] at h0 h1 h2 h3
  obtain ⟨a0, e0, _, w0⟩ := DataW.trod_int Tryz.underlying5 h0
  obtain ⟨a1, e1, _, w1⟩ := DataW.trod_int Tryz.underlying5 h1
  obtain ⟨a2, e2, _, w2⟩ := DataW.trod_int Tryz.underlying5 h2
  obtain ⟨a3, e3, _, w3⟩ := DataW.trod_int Tryz.underlying5 h3
  simp at e0 e1 e2 e3
  have b0 := bounds_u8 w0
  have b1 := bounds_u8 w1
  have b2 := bounds_u8 w2
  have b3 := bounds_u8 w3
  refine ⟨⟨a0, a1, a2, a3⟩, e0, e1, e2, e3, ?_⟩
  unfold Co.ok By
  dsimp only
  omega

set_option maxRecDepth 100000 in
theorem rectZ_cells {H : Type} {enc : TypeId × Value → H} {W : World} {b : Nat} {sp : Nat → Bool} {held : Bool} {fuel : Nat} {cs : List Value} {x : DataW H × List MemPlace} (h : DataW.trod enc Tryz.prog W b sp held fuel 55 cs = some x) :
    ∃ r : Rc, cs = [.int .i64 r.x, .int .i64 r.y, .int .i64 r.w, .int .i64 r.h] ∧ I64 r.x ∧ I64 r.y ∧ I64 r.w ∧ I64 r.h := by
  obtain ⟨y0, y1, n, _, hl, h0, h1⟩ := trod_struct2 Tryz.underlying55 h
  rw [cells_r] at hl
  match cs, hl with
  | [c0, c1, c2, c3], _ =>
    simp [cells_p, cells_s] at h0 h1
    obtain ⟨y00, y01, n0, _, _, h00, h01⟩ := trod_struct2 Tryz.underlying41 h0
    obtain ⟨y10, y11, n1, _, _, h10, h11⟩ := trod_struct2 Tryz.underlying23 h1
    simp [cells_i] at h00 h01 h10 h11
    obtain ⟨a0, e0, _, w0⟩ := DataW.trod_int Tryz.underlying3 h00
    obtain ⟨a1, e1, _, w1⟩ := DataW.trod_int Tryz.underlying3 h01
    obtain ⟨a2, e2, _, w2⟩ := DataW.trod_int Tryz.underlying3 h10
    obtain ⟨a3, e3, _, w3⟩ := DataW.trod_int Tryz.underlying3 h11
    simp at e0 e1 e2 e3
    subst e0 e1 e2 e3
    exact ⟨⟨a0, a1, a2, a3⟩, rfl, i64_of w0, i64_of w1, i64_of w2, i64_of w3⟩

set_option maxRecDepth 100000 in
theorem stroke_cells {H : Type} {enc : TypeId × Value → H} {W : World} {b : Nat} {sp : Nat → Bool} {held : Bool} {fuel : Nat} {cs : List Value} {x : DataW H × List MemPlace} (h : DataW.trod enc Tryz.prog W b sp held fuel 58 cs = some x) :
    ∃ s : St, cs = sCel s ∧ WfS s := by
  obtain ⟨y0, y1, y2, y3, y4, y5, n, hl, h0, h1, h2, h3, h4, h5⟩ := trod_struct6 Tryz.underlying58 h
  rw [cells_st] at hl
  match cs, hl with
  | [c0, c1, c2, c3, c4, c5, c6, c7, c8, c9, c10, c11, c12, c13, c14], _ =>
    simp [cells_u8, cells_r, cells_c, cells_t, cells_i] at h0 h1 h2 h3 h4 h5
    obtain ⟨a0, e0, _, w0⟩ := DataW.trod_int Tryz.underlying5 h0
    obtain ⟨r, er, i1, i2, i3, i4⟩ := rectZ_cells h1
    obtain ⟨c, d0, d1, d2, d3, okc⟩ := colZ_cells h2
    obtain ⟨k, f0, f1, f2, f3, okk⟩ := colZ_cells h3
    obtain ⟨t, et, _, wt⟩ := DataW.trod_string Tryz.underlying9 h4
    obtain ⟨m, em, _, wm⟩ := DataW.trod_int Tryz.underlying3 h5
    simp at e0 er et em
    obtain ⟨r1, r2, r3, r4⟩ := er
    have hb := bounds_u8 w0
    refine ⟨⟨a0, r, c, k, t, m⟩, ?_, ⟨by dsimp only; omega, by dsimp only; omega⟩, ⟨i1, i2, i3, i4⟩, okc, okk, wt, i64_of wm⟩
    rw [e0, r1, r2, r3, r4, d0, d1, d2, d3, f0, f1, f2, f3, et, em]
    rfl

theorem strokes_of {W : World} {g o : Nat} : ∀ (n : Nat), (∀ i, i < n → ∃ s : St, StAt W g (o + i * 15) s ∧ WfS s) → ∃ l : List St, l.length = n ∧ (∀ i (h : i < l.length), StAt W g (o + i * 15) l[i]) ∧ Wfs l
  | 0, _ => ⟨[], rfl, fun i h => absurd h (Nat.not_lt_zero i), fun r hr => by simp at hr⟩
  | n + 1, h => by
    obtain ⟨rs, hl, ha, hw⟩ := strokes_of n fun i hi => h i (by omega)
    obtain ⟨r, hr, hz⟩ := h n (by omega)
    refine ⟨rs ++ [r], by simp [hl], fun i hi => ?_, fun x hx => ?_⟩
    · by_cases e : i < rs.length
      · rw [List.getElem_append_left e]; exact ha i e
      · have : i = n := by simp at hi; omega
        subst this
        subst hl
        rw [List.getElem_concat_length rfl]
        exact hr
    · rcases List.mem_append.1 hx with hx | hx
      · exact hw x hx
      · simp at hx; subst hx; exact hz

set_option maxRecDepth 100000 in
theorem open_strokes {H : Type} {enc : TypeId × Value → H} {W : World} {base b : Nat} {sp : Nat → Bool} {held : Bool} {v : Value} {d : DataW H} {p : List MemPlace}
    (hv : Value.okWide Tryz.prog W .any base 27 v) (h : DataW.Trod enc Tryz.prog W b sp held 27 v d p) : ∃ l : List St, LsS W v l ∧ Wfs l ∧ NoNil v := by
  obtain ⟨oa, len, cap, rfl⟩ := okWide_slice Tryz.underlying27 hv
  obtain ⟨fuel, hf⟩ := h
  rcases DataW.trod_slice Tryz.underlying27 hf with ⟨he, _⟩ | ⟨a, len', cap', el, rest, n, _, he, _, _, hlc, hcm, hel, hat, _, _⟩
  · simp [Value.cells] at he
    obtain ⟨rfl, rfl, rfl⟩ := he
    exact ⟨[], ⟨none, 0, rfl, Nat.le_refl _, fun h => by simp at h⟩, fun r hr => by simp at hr, fun c hc => by injection hc with _ _ h; exact h.symm⟩
  · simp [Value.cells] at he
    obtain ⟨rfl, rfl, rfl⟩ := he
    have hnn : NoNil (.slice (some a) len cap) := fun c hc => by injection hc with h1 _ _; cases h1
    rw [cells_st] at hat
    obtain ⟨g, o, s⟩ := a
    have key : ∀ i, i < len → ∃ r : St, (∀ j, j < 15 → W.cell? ((Addr.mk g o s).add (i * 15) |>.add j) = (sCel r)[j]?) ∧ WfS r := by
      intro i hi
      have h1 := hat i hi
      obtain ⟨bb, hb⟩ : ∃ bb, el[i]? = some bb := ⟨el[i]'(by omega), List.getElem?_eq_getElem (by omega)⟩
      rw [hb] at h1
      obtain ⟨ce, hce, hte⟩ := Option.bind_eq_some_iff.1 h1
      obtain ⟨r, hr, hw⟩ := stroke_cells hte
      obtain ⟨_, _, hcc⟩ := World.cells?_some hce
      exact ⟨r, fun j hj => by rw [hcc j hj, hr], hw⟩
    by_cases h0 : len = 0
    · subst h0
      exact ⟨[], ⟨_, cap, rfl, Nat.zero_le _, fun h => by simp at h⟩, fun r hr => by simp at hr, hnn⟩
    obtain rfl : s = none := by
      obtain ⟨r, hr, _⟩ := key 0 (by omega)
      have h00 := hr 0 (by omega)
      have : (Addr.add (Addr.add ⟨g, o, s⟩ (0 * 15)) 0) = ⟨g, o, s⟩ := by simp [Addr.add]
      rw [this] at h00
      exact Go.Proofs.cell_spot h00
    obtain ⟨rs, hl, ha, hw⟩ := strokes_of (W := W) (g := g) (o := o) len fun i hi => by
      obtain ⟨r, hr, hz⟩ := key i hi
      have e := fun j hj => hr j hj
      simp only [Addr.add_lit] at e
      exact ⟨r, stat_iff.2 e, hz⟩
    subst hl
    have hg : g < W.heap.size := by
      have h1 := (ha 0 (by omega)).1
      rcases Nat.lt_or_ge g W.heap.size with h' | h'
      · exact h'
      · simp [World.cell?, Array.getElem?_eq_none h'] at h1
    exact ⟨rs, ⟨_, cap, rfl, hlc, fun _ => ⟨g, o, rfl, hg, ha⟩⟩, hw, hnn⟩

set_option maxRecDepth 100000 in
theorem open_pt {H : Type} {enc : TypeId × Value → H} {W : World} {base b : Nat} {sp : Nat → Bool} {held : Bool} {v : Value} {d : DataW H} {p : List MemPlace}
    (hv : Value.okWide Tryz.prog W .any base 41 v) (h : DataW.Trod enc Tryz.prog W b sp held 41 v d p) : ∃ x y : Int, v = .agg #[.int .i64 x, .int .i64 y] ∧ I64 x ∧ I64 y := by
  obtain ⟨c0, c1, y0, y1, m, rfl, rfl, rfl, hy0, hy1⟩ := open_agg2 Tryz.underlying41 (by kernel_rfl) cells_p hv h
  obtain ⟨a, e0, rfl, wa⟩ := DataW.trod_int Tryz.underlying3 hy0
  obtain ⟨c, e1, rfl, wc⟩ := DataW.trod_int Tryz.underlying3 hy1
  simp at e0 e1
  subst e0 e1
  exact ⟨a, c, rfl, i64_of wa, i64_of wc⟩

end Go.Proofs.YtleoaanjcccooaaGreatDoor

/-
  DERIVED: THE SHELF's CONTRACTS AT THIS DUMP, IN PLAIN WORDS (tools/lay-plain.mjs out of 'YtleoaanjcccooaaGreatDoorEC0.lean', which tools/lay-shelf.mjs wrote): THE SAME DECLARATIONS UNDER THE SAME NAMES: 'import', 'namespace', 'open', 'def', 'theorem' AND NOTHING ELSE: no command of the shelf's: FOR A HAND-IN. Each laying: the table of numbers ('.._ren') and one theorem, a field a fact of the dump's own or the kernel's comparison; each contract: ONE APPLICATION.
-/
namespace Go.Proofs
open Go.Shelf
def Tryz.laysM145_ren : Go.Shelf.Ren := ⟨fun | 145 => 101 | 220 => 133 | 219 => 154 | 217 => 168 | 225 => 169 | 224 => 170 | 267 => 171 | 266 => 190 | 314 => 191 | n => n, fun | 9 => 9 | 4 => 4 | 59 => 166 | 3 => 3 | 5 => 5 | 46 => 140 | 146 => 179 | 51 => 178 | n => n, fun | 1 => 5 | n => n⟩
theorem Tryz.laysM145 : Go.Proofs.LaysM.n145 Tryz.prog Tryz.laysM145_ren := {
  mixed := by kernel_rfl
  f145 := Tryz.func101.trans (congrArg some (by kernel_rfl))
  f217 := Tryz.func168.trans (congrArg some (by kernel_rfl))
  f219 := Tryz.func154.trans (congrArg some (by kernel_rfl))
  f220 := Tryz.func133.trans (congrArg some (by kernel_rfl))
  f224 := Tryz.func170.trans (congrArg some (by kernel_rfl))
  f225 := Tryz.func169.trans (congrArg some (by kernel_rfl))
  f266 := Tryz.func190.trans (congrArg some (by kernel_rfl))
  f267 := Tryz.func171.trans (congrArg some (by kernel_rfl))
  f314 := Tryz.func191.trans (congrArg some (by kernel_rfl))
  t3 := Tryz.underlying3
  a3 := Tryz.isAgg3
  z3 := Tryz.sizeOf3
  v3 := Tryz.zeroValue3
  t4 := Tryz.underlying4
  a4 := Tryz.isAgg4
  z4 := Tryz.sizeOf4
  v4 := Tryz.zeroValue4
  t5 := Tryz.underlying5
  a5 := Tryz.isAgg5
  z5 := Tryz.sizeOf5
  v5 := Tryz.zeroValue5
  t9 := Tryz.underlying9
  a9 := Tryz.isAgg9
  z9 := Tryz.sizeOf9
  v9 := Tryz.zeroValue9
  t46 := Tryz.underlying140
  a46 := Tryz.isAgg140
  z46 := Tryz.sizeOf140
  v46 := Tryz.zeroValue140
  t51 := Tryz.underlying178
  a51 := Tryz.isAgg178
  z51 := Tryz.sizeOf178
  v51 := Tryz.zeroValue178
  t59 := Tryz.underlying166
  a59 := Tryz.isAgg166
  z59 := Tryz.sizeOf166
  v59 := Tryz.zeroValue166
  t146 := Tryz.underlying179
  a146 := Tryz.isAgg179
  z146 := Tryz.sizeOf179
  v146 := Tryz.zeroValue179
  g1 := by kernel_rfl
  i3 := by kernel_rfl
  i4 := by kernel_rfl
  i5 := by kernel_rfl
  i9 := by kernel_rfl
  i46 := by kernel_rfl
  i51 := by kernel_rfl
  i59 := by kernel_rfl
  i146 := by kernel_rfl
  m1 := by kernel_rfl
  s1_3 := fun w h => Go.Proofs.cell_of_shapedOpen_int (zero := #[.int .i64 0]) (t := 3) h (of_decide_eq_true (by kernel_rfl)) (by kernel_rfl) rfl (by kernel_rfl) (by kernel_rfl) Tryz.underlying3 }
end Go.Proofs

/-
  Drawing lists place by place: what shows at a place is the same without what nobody sees; cut to a region it shows there alone.
-/
namespace Go.Proofs.YtleoaanjcccooaaGreatDoor

theorem has_iff (r : Rc) (px py : Int) : zHa r px py = true ↔ (-16384 ≤ r.x ∧ r.x + r.w ≤ 16384 ∧ -16384 ≤ r.y ∧ r.y + r.h ≤ 16384) ∧ r.x ≤ px ∧ px < r.x + r.w ∧ r.y ≤ py ∧ py < r.y + r.h := by
  have h := keepE_iff r
  unfold keepE at h
  unfold zHa hasB
  rw [Bool.and_eq_true, h]
  simp only [Bool.and_eq_true, decide_eq_true_eq]
  constructor
  · rintro ⟨⟨_, _, _, _, _, _⟩, _, _, _, _⟩
    omega
  · rintro ⟨⟨_, _, _, _⟩, _, _, _, _⟩
    omega
theorem has_keep {r : Rc} {px py : Int} (h : zHa r px py = true) : zEm r = false := by
  unfold zHa hasB at h
  unfold zEm
  cases e : emptyB r.x r.y r.w r.h
  · rfl
  · rw [e] at h; simp at h
theorem has_em {r : Rc} (h : zEm r = true) (px py : Int) : zHa r px py = false := by
  cases e : zHa r px py
  · rfl
  · rw [has_keep e] at h; cases h
theorem has_zr (px py : Int) : zHa zr px py = false := has_em rfl px py
theorem em_iff (r : Rc) : zEm r = false ↔ -16384 ≤ r.x ∧ 0 < r.w ∧ r.x + r.w ≤ 16384 ∧ -16384 ≤ r.y ∧ 0 < r.h ∧ r.y + r.h ≤ 16384 := by
  rw [← keepE_iff]
  unfold zEm keepE
  simp
theorem has_meet (a b : Rc) (px py : Int) : zHa (zMe a b) px py = (zHa a px py && zHa b px py) := by
  cases ea : zEm a
  · cases eb : zEm b
    · have ha := (em_iff a).1 ea
      have hb := (em_iff b).1 eb
      have e : zMe a b = btw (max a.x b.x) (max a.y b.y) (min (a.x + a.w) (b.x + b.w)) (min (a.y + a.h) (b.y + b.h)) := by
        unfold zEm at ea eb
        unfold zMe meetR
        rw [ea, eb]
        rfl
      rw [e]
      by_cases h : min (a.x + a.w) (b.x + b.w) ≤ max a.x b.x ∨ min (a.y + a.h) (b.y + b.h) ≤ max a.y b.y
      · rw [btw_no h, has_zr]
        symm
        rw [Bool.eq_false_iff]
        intro k
        rw [Bool.and_eq_true, has_iff, has_iff] at k
        omega
      · rw [btw_yes (by omega) (by omega), Bool.eq_iff_iff, Bool.and_eq_true, has_iff, has_iff, has_iff]
        simp only
        omega
    · rw [has_em eb, Bool.and_false]
      have e : zMe a b = zr := by
        unfold zEm at ea eb
        unfold zMe meetR
        rw [ea, eb]
        rfl
      rw [e, has_zr]
  · rw [has_em ea, Bool.false_and]
    have e : zMe a b = zr := by
      unfold zEm at ea
      unfold zMe meetR
      rw [ea]
      rfl
    rw [e, has_zr]
theorem rc_of_eqB {r q : Rc} (h : eqB r q.x q.y q.w q.h = true) : r = q := by
  cases r; cases q
  simp [eqB] at h
  simp [h]
theorem in_has {a b : Rc} (h : zIn a b = true) {px py : Int} (k : zHa a px py = true) : zHa b px py = true := by
  unfold zIn inB at h
  have e := has_keep k
  unfold zEm at e
  rw [e, Bool.false_or] at h
  have e2 : zMe a b = a := rc_of_eqB h
  have e3 := has_meet a b px py
  rw [e2, k] at e3
  simpa using e3.symm
theorem ov_has {a b : Rc} {px py : Int} (h1 : zHa a px py = true) (h2 : zHa b px py = true) : zOv a b = true := by
  unfold zOv overB
  cases e : eqB (meetR a.x a.y a.w a.h b.x b.y b.w b.h) 0 0 0 0
  · rfl
  · have e2 : zMe a b = zr := rc_of_eqB (q := zr) e
    have e3 := has_meet a b px py
    rw [e2, h1, h2, has_zr] at e3
    cases e3

/-- Is a place at a rectangle's edge? -/
def edgB (r : Rc) (px py : Int) : Bool := (px == r.x) || ((py == r.y) || ((px == r.x + r.w - 1) || (py == r.y + r.h - 1)))
/-- Does a stroke draw at a place of the rectangle in which it shows? -/
def cnd (px py : Int) (s : St) : Bool := if s.k = 1 then !(s.c.a == 0) else if s.k = 2 then !(s.c.a == 0) && edgB s.r px py else if s.k = 3 then !(s.t.size == 0) else false
theorem btw_has (a b c d : Int) (h1 : -16384 ≤ a) (h2 : -16384 ≤ b) (h3 : c ≤ 16384) (h4 : d ≤ 16384) (px py : Int) : zHa (btw a b c d) px py = true ↔ a ≤ px ∧ px < c ∧ b ≤ py ∧ py < d := by
  by_cases h : c ≤ a ∨ d ≤ b
  · rw [btw_no h, has_zr]
    constructor
    · intro k; cases k
    · intro k; omega
  · rw [btw_yes (by omega) (by omega), has_iff]
    simp only
    omega
theorem sid_has {q : Rc} {px py : Int} (h : zHa q px py = true) : (sidR q).any (fun a => zHa a px py) = edgB q px py := by
  have k := (has_iff q px py).1 h
  rw [Bool.eq_iff_iff]
  unfold sidR edgB
  simp only [List.any_cons, List.any_nil, Bool.or_false, Bool.or_eq_true, beq_iff_eq]
  rw [btw_has _ _ _ _ (by omega) (by omega) (by omega) (by omega), btw_has _ _ _ _ (by omega) (by omega) (by omega) (by omega), btw_has _ _ _ _ (by omega) (by omega) (by omega) (by omega), btw_has _ _ _ _ (by omega) (by omega) (by omega) (by omega)]
  omega
theorem any_keep (r : Rc) (px py : Int) : ∀ l : List Rc, ((l.map (fun q => zMe q r)).filter (fun q => !zEm q)).any (fun a => zHa a px py) = (zHa r px py && l.any (fun a => zHa a px py))
  | [] => by simp
  | q :: l => by
    have ih := any_keep r px py l
    rw [List.map_cons, List.filter_cons, List.any_cons]
    cases e : zEm (zMe q r)
    · simp only [Bool.not_false, if_true, List.any_cons]
      rw [ih, has_meet]
      cases zHa q px py <;> cases zHa r px py <;> simp
    · simp only [Bool.not_true, Bool.false_eq_true, if_false]
      have h := has_em e px py
      rw [has_meet] at h
      rw [ih]
      revert h
      cases zHa q px py <;> cases zHa r px py <;> simp
/-- The places at which a stroke shows, place by place. -/
theorem plc_any {s : St} {r : Rc} {px py : Int} (hk : s.k = 1 ∨ s.k = 2 ∨ s.k = 3 ∨ s.k = 4 ∨ s.k = 5) (hr : zHa r px py = true → zHa s.r px py = true) :
    (plc s r).any (fun a => zHa a px py) = (zHa r px py && cnd px py s) := by
  unfold plc
  cases hn : noP s r
  · rw [if_neg (by simp)]
    unfold noP at hn
    simp only [Bool.or_eq_false_iff] at hn
    obtain ⟨h1, h2, h3, h4⟩ := hn
    have hd : s.k < 4 := by unfold drw at h4; simpa using h4
    by_cases h : s.k = 2
    · rw [if_pos h, any_keep]
      have ha : (s.c.a == 0) = false := by rw [h] at h3; simpa using h3
      unfold cnd
      rw [if_neg (by omega), if_pos h, ha]
      cases e : zHa r px py
      · rfl
      · rw [sid_has (hr e)]; rfl
    · rw [if_neg h]
      simp only [List.any_cons, List.any_nil, Bool.or_false]
      have hc : cnd px py s = true := by
        unfold cnd
        rcases hk with k | k | k | k | k
        · rw [if_pos k]
          rw [k] at h3
          simp at h3 ⊢
          exact h3
        · exact absurd k h
        · rw [if_neg (by omega), if_neg h, if_pos k]
          rw [k] at h2
          simp at h2 ⊢
          exact h2
        · omega
        · omega
      rw [hc, Bool.and_true]
  · rw [if_pos rfl]
    unfold noP at hn
    simp only [List.any_nil]
    cases e : zHa r px py
    · rfl
    · have h1 := has_keep e
      rw [h1, Bool.false_or] at hn
      symm
      rw [Bool.true_and]
      unfold cnd
      simp only [Bool.or_eq_true, Bool.and_eq_true] at hn
      rcases hk with k | k | k | k | k
      · rw [if_pos k]
        rw [k] at hn
        simp [drw, k] at hn
        simp [hn]
      · rw [if_neg (by omega), if_pos k]
        rw [k] at hn
        simp [drw, k] at hn
        simp [hn]
      · rw [if_neg (by omega), if_neg (by omega), if_pos k]
        rw [k] at hn
        simp [drw, k] at hn
        simp [hn]
      · rw [if_neg (by omega), if_neg (by omega), if_neg (by omega)]
      · rw [if_neg (by omega), if_neg (by omega), if_neg (by omega)]

/-- Strokes with whether they show at a place. -/
def hs (px py : Int) (p : St × Rc) : St × Bool := (p.1, zHa p.2 px py)
def dH (px py : Int) (p : St × Bool) : Bool := p.2 && cnd px py p.1
def oH (p : St × Bool) : Bool := p.2 && opq p.1
theorem oH_dH {px py : Int} {p : St × Bool} (h : oH p = true) : dH px py p = true := by
  unfold oH opq at h
  simp only [Bool.and_eq_true, beq_iff_eq] at h
  unfold dH cnd
  rw [h.1, if_pos h.2.1, h.2.2]
  rfl
/-- Those that draw there, from the last opaque Fill on. -/
def outH (px py : Int) : List (St × Bool) → List St
  | [] => []
  | p :: t => if (dH px py p && !t.any oH) = true then p.1 :: outH px py t else outH px py t
theorem outH_app (px py : Int) : ∀ a b : List (St × Bool), outH px py (a ++ b) = (if b.any oH = true then [] else outH px py a) ++ outH px py b
  | [], b => by show outH px py b = (if b.any oH = true then [] else []) ++ _; split <;> rfl
  | p :: a, b => by
    show (if (dH px py p && !(a ++ b).any oH) = true then p.1 :: outH px py (a ++ b) else outH px py (a ++ b)) = _
    rw [outH_app px py a b, List.any_append, show outH px py (p :: a) = (if (dH px py p && !a.any oH) = true then p.1 :: outH px py a else outH px py a) from rfl]
    cases b.any oH <;> cases a.any oH <;> cases dH px py p <;> simp
theorem outH_ne (px py : Int) : ∀ l : List (St × Bool), (outH px py l = [] ↔ l.any (dH px py) = false)
  | [] => by simp [outH]
  | p :: t => by
    have ih := outH_ne px py t
    unfold outH
    rw [List.any_cons]
    cases e : t.any (dH px py)
    · have h : t.any oH = false := by
        rw [List.any_eq_false] at e ⊢
        intro x hx hc
        exact e x hx (oH_dH hc)
      rw [h]
      cases dH px py p
      · simp [ih.2 e]
      · simp
    · have : outH px py t ≠ [] := fun h => by rw [ih.1 h] at e; cases e
      split <;> simp [this]
/-- Without a stroke that does not draw there. -/
theorem outH_drop (px py : Int) {p : St × Bool} (h : dH px py p = false) (a b : List (St × Bool)) : outH px py (a ++ p :: b) = outH px py (a ++ b) ∧ (a ++ p :: b).any oH = (a ++ b).any oH := by
  have ho : oH p = false := by
    cases e : oH p
    · rfl
    · rw [oH_dH e] at h; cases h
  have e1 : (p :: b).any oH = b.any oH := by rw [List.any_cons, ho, Bool.false_or]
  have e2 : outH px py (p :: b) = outH px py b := by rw [outH, h]; rfl
  rw [outH_app, outH_app, e1, e2, List.any_append, List.any_append, e1]
  exact ⟨rfl, rfl⟩
theorem hs_clip {px py : Int} {p : St × Rc} (h : p.1.k = 4 ∨ p.1.k = 5) : dH px py (hs px py p) = false := by
  unfold dH hs cnd
  rw [if_neg (by simp only; omega), if_neg (by simp only; omega), if_neg (by simp only; omega), Bool.and_false]
theorem outH_idl (px py : Int) {l m : List (St × Rc)} (h : Idl (fun p : St × Rc => p.1.k) l m) : outH px py (l.map (hs px py)) = outH px py (m.map (hs px py)) ∧ (l.map (hs px py)).any oH = (m.map (hs px py)).any oH := by
  induction h with
  | refl => exact ⟨rfl, rfl⟩
  | step a b m c o h1 h2 _ ih =>
    rw [List.map_append, List.map_cons, List.map_cons]
    rw [List.map_append] at ih
    have q1 := outH_drop px py (hs_clip (px := px) (py := py) (p := c) (.inl h1)) (a.map (hs px py)) (hs px py o :: b.map (hs px py))
    have q2 := outH_drop px py (hs_clip (px := px) (py := py) (p := o) (.inr h2)) (a.map (hs px py)) (b.map (hs px py))
    exact ⟨q1.1.trans (q2.1.trans ih.1), q1.2.trans (q2.2.trans ih.2)⟩

/-- A stroke's places are told by where it shows. -/
def Gd (p : St × Rc) : Prop := ∀ px py, (plc p.1 p.2).any (fun a => zHa a px py) = dH px py (hs px py p)
/-- Is a place in all clips? -/
def inO (px py : Int) : List Rc → Bool
  | [] => true
  | c :: _ => zHa c px py
theorem shR_has (px py : Int) (cs : List Rc) (s : St) : zHa (shR cs s) px py = (inO px py cs && zHa s.r px py) := by
  have h : zHa (topR cs s.r) px py = (inO px py cs && zHa s.r px py) := by
    cases cs with
    | nil => simp [topR, inO]
    | cons c cs => show zHa (zMe s.r c) px py = (zHa c px py && _); rw [has_meet, Bool.and_comm]
  rw [← h]
  unfold shR
  split
  · next e => rw [has_zr, has_em e]
  · rfl
theorem ann_gd : ∀ (l : List St) (cs : List Rc) (n : Nat), clpE n l = 0 → ∀ p ∈ ann cs l, Gd p
  | [], _, _, _, p, hp => by cases hp
  | s :: l, cs, n, h, p, hp => by
    obtain ⟨h1, h2, h3⟩ := clpE_cons h
    rcases List.mem_cons.1 (show p ∈ (s, shR cs s) :: ann (nxC cs s) l from hp) with rfl | hp
    · intro px py
      refine plc_any (oneE_zero h1).2.1 fun k => ?_
      have k : zHa (shR cs s) px py = true := k
      rw [shR_has] at k
      exact (Bool.and_eq_true_iff.1 k).2
    · exact ann_gd l _ _ h3 p hp
/-- Without what nobody sees, the same shows. -/
theorem outH_kepN (px py : Int) : ∀ l : List (St × Rc), (∀ p ∈ l, Gd p) → outH px py ((kepN l).map (hs px py)) = outH px py (l.map (hs px py)) ∧ ((kepN l).map (hs px py)).any oH = (l.map (hs px py)).any oH
  | [], _ => ⟨rfl, rfl⟩
  | p :: t, hg => by
    obtain ⟨i1, i2⟩ := outH_kepN px py t fun q hq => hg q (List.mem_cons_of_mem p hq)
    unfold kepN
    by_cases h : hidB p t = true
    · rw [if_pos h, List.map_cons]
      have key : dH px py (hs px py p) = true → (t.map (hs px py)).any oH = true := by
        intro hd
        rw [← hg p List.mem_cons_self px py, List.any_eq_true] at hd
        obtain ⟨a, ha, hap⟩ := hd
        unfold hidB at h
        rw [Bool.and_eq_true, Bool.or_eq_true] at h
        rcases h.2 with h | h
        · rw [List.isEmpty_iff] at h
          rw [h] at ha
          cases ha
        · rw [List.any_eq_true] at h
          obtain ⟨q, hq, hq2⟩ := h
          rw [Bool.and_eq_true, List.all_eq_true] at hq2
          rw [List.any_eq_true]
          refine ⟨hs px py q, List.mem_map_of_mem hq, ?_⟩
          show (zHa q.2 px py && opq q.1) = true
          rw [in_has (hq2.2 a ha) hap, hq2.1]
          rfl
      have ko : oH (hs px py p) = true → (t.map (hs px py)).any oH = true := fun k => key (oH_dH k)
      refine ⟨?_, ?_⟩
      · rw [i1, outH]
        cases e : dH px py (hs px py p)
        · rfl
        · rw [key e]; rfl
      · rw [i2, List.any_cons]
        cases e : oH (hs px py p)
        · rfl
        · rw [ko e]; rfl
    · rw [if_neg h, List.map_cons, List.map_cons, outH, outH, List.any_cons, List.any_cons, i1, i2]
      exact ⟨rfl, rfl⟩

/-- What the statements' own look tells: stroke by stroke, clip by clip. -/
def atO (px py : Int) (i : Bool) (s : St) (o : List St) : List St :=
  if s.k = 1 then (if (i && (zHa s.r px py && decide (0 < s.c.a))) = true then (if (i && (zHa s.r px py && s.c.a == 255)) = true then [] else o) ++ [s] else (if (i && (zHa s.r px py && s.c.a == 255)) = true then [] else o))
  else if s.k = 2 then (if (i && (zHa s.r px py && (edgB s.r px py && decide (0 < s.c.a)))) = true then o ++ [s] else o)
  else (if (i && (zHa s.r px py && !(s.t.size == 0))) = true then o ++ [s] else o)
def atS (px py : Int) : List Bool → Bool → List St → List St → List St
  | _, _, o, [] => o
  | cs, i, o, s :: l =>
    if s.k = 4 then atS px py (i :: cs) (i && zHa s.r px py) o l
    else if s.k = 5 then (if cs.isEmpty = true then [] else atS px py cs.tail (cs.headD true) o l)
    else atS px py cs i (atO px py i s o) l
def bls (px py : Int) : List Rc → List Bool
  | [] => []
  | _ :: cs => inO px py cs :: bls px py cs
theorem at_ann (px py : Int) : ∀ (l : List St) (cs : List Rc) (o : List St), clpE cs.length l = 0 → (∀ s ∈ l, 0 ≤ s.c.a) →
    atS px py (bls px py cs) (inO px py cs) o l = (if ((ann cs l).map (hs px py)).any oH = true then [] else o) ++ outH px py ((ann cs l).map (hs px py))
  | [], cs, o, _, _ => by
    cases cs <;> simp [atS, ann, outH]
  | s :: l, cs, o, h, hp => by
    obtain ⟨h1, h2, h3⟩ := clpE_cons h
    have hp' : ∀ q ∈ l, 0 ≤ q.c.a := fun q hq => hp q (List.mem_cons_of_mem s hq)
    have ha : 0 ≤ s.c.a := hp s List.mem_cons_self
    rw [← nxC_len] at h3
    obtain ⟨_, hk, _⟩ := oneE_zero h1
    have hsh := shR_has px py cs s
    show _ = (if ((hs px py (s, shR cs s)) :: (ann (nxC cs s) l).map (hs px py)).any oH = true then [] else o) ++ outH px py (hs px py (s, shR cs s) :: (ann (nxC cs s) l).map (hs px py))
    rw [List.any_cons, outH]
    have eH : oH (hs px py (s, shR cs s)) = ((inO px py cs && zHa s.r px py) && opq s) := by unfold oH hs; rw [hsh]
    have eD : dH px py (hs px py (s, shR cs s)) = ((inO px py cs && zHa s.r px py) && cnd px py s) := by unfold dH hs; rw [hsh]
    rw [eH, eD]
    have draws : s.k < 4 → atS px py (bls px py cs) (inO px py cs) o (s :: l) = atS px py (bls px py cs) (inO px py cs) (atO px py (inO px py cs) s o) l := by
      intro k
      rw [atS, if_neg (show ¬ s.k = 4 by omega), if_neg (show ¬ s.k = 5 by omega)]
    have nxt : s.k < 4 → nxC cs s = cs := fun k => nxC_drw cs (by unfold drw; exact decide_eq_true k)
    rcases hk with k | k | k | k | k
    · rw [draws (by omega)]
      rw [nxt (by omega)] at h3 ⊢
      rw [at_ann px py l cs _ h3 hp']
      unfold atO cnd opq
      rw [if_pos k, if_pos k, k]
      have c1 : decide (0 < s.c.a) = !(s.c.a == 0) := by
        rw [Bool.eq_iff_iff]; simp; omega
      rw [c1]
      generalize ((ann cs l).map (hs px py)).any oH = A
      generalize outH px py ((ann cs l).map (hs px py)) = B
      generalize inO px py cs = i
      generalize zHa s.r px py = z
      by_cases c0 : s.c.a = 0
      · rw [c0]
        cases A <;> cases i <;> cases z <;> simp
      · by_cases c2 : s.c.a = 255
        · rw [c2]
          cases A <;> cases i <;> cases z <;> simp [hs]
        · have e0 : (s.c.a == 0) = false := beq_eq_false_iff_ne.2 c0
          have e2 : (s.c.a == 255) = false := beq_eq_false_iff_ne.2 c2
          rw [e0, e2]
          cases A <;> cases i <;> cases z <;> simp [hs]
    · rw [draws (by omega)]
      rw [nxt (by omega)] at h3 ⊢
      rw [at_ann px py l cs _ h3 hp']
      unfold atO cnd opq
      rw [if_neg (show ¬ s.k = 1 by omega), if_pos k, if_neg (show ¬ s.k = 1 by omega), if_pos k, k]
      have c1 : decide (0 < s.c.a) = !(s.c.a == 0) := by
        rw [Bool.eq_iff_iff]; simp; omega
      rw [c1]
      generalize ((ann cs l).map (hs px py)).any oH = A
      generalize outH px py ((ann cs l).map (hs px py)) = B
      generalize inO px py cs = i
      generalize zHa s.r px py = z
      generalize edgB s.r px py = e
      generalize (s.c.a == 0) = f
      cases A <;> cases i <;> cases z <;> cases e <;> cases f <;> simp [hs]
    · rw [draws (by omega)]
      rw [nxt (by omega)] at h3 ⊢
      rw [at_ann px py l cs _ h3 hp']
      unfold atO cnd opq
      rw [if_neg (show ¬ s.k = 1 by omega), if_neg (show ¬ s.k = 2 by omega), if_neg (show ¬ s.k = 1 by omega), if_neg (show ¬ s.k = 2 by omega), if_pos k, k]
      generalize ((ann cs l).map (hs px py)).any oH = A
      generalize outH px py ((ann cs l).map (hs px py)) = B
      generalize inO px py cs = i
      generalize zHa s.r px py = z
      generalize (s.t.size == 0) = f
      cases A <;> cases i <;> cases z <;> cases f <;> simp [hs]
    · have e1 : nxC cs s = shR cs s :: cs := by unfold nxC; rw [if_pos k]
      have e2 : atS px py (bls px py cs) (inO px py cs) o (s :: l) = atS px py (bls px py (nxC cs s)) (inO px py (nxC cs s)) o l := by
        rw [e1]
        show _ = atS px py (inO px py cs :: bls px py cs) (zHa (shR cs s) px py) o l
        rw [hsh]
        rw [atS, if_pos k]
      rw [e2, at_ann px py l _ _ h3 hp']
      unfold cnd opq
      rw [if_neg (show ¬ s.k = 1 by omega), if_neg (show ¬ s.k = 2 by omega), if_neg (show ¬ s.k = 3 by omega), show (s.k == 1) = false from beq_eq_false_iff_ne.2 (by omega)]
      simp only [Bool.and_false, Bool.false_or, Bool.false_and, Bool.false_eq_true, if_false]
    · have hn : cs ≠ [] := fun e => h2 ⟨k, by rw [e]; rfl⟩
      cases cs with
      | nil => exact absurd rfl hn
      | cons c cs =>
        have e1 : nxC (c :: cs) s = cs := by unfold nxC; rw [if_neg (by omega), if_pos k]; rfl
        rw [e1] at h3 ⊢
        have e2 : atS px py (bls px py (c :: cs)) (inO px py (c :: cs)) o (s :: l) = atS px py (bls px py cs) (inO px py cs) o l := by
          show atS px py (inO px py cs :: bls px py cs) (zHa c px py) o (s :: l) = _
          rw [atS, if_neg (by omega), if_pos k]
          rfl
        rw [e2, at_ann px py l _ _ h3 hp']
        unfold cnd opq
        rw [if_neg (show ¬ s.k = 1 by omega), if_neg (show ¬ s.k = 2 by omega), if_neg (show ¬ s.k = 3 by omega), show (s.k == 1) = false from beq_eq_false_iff_ne.2 (by omega)]
        simp only [Bool.and_false, Bool.false_or, Bool.false_and, Bool.false_eq_true, if_false]
/-- What shows at a place. -/
def atL (px py : Int) (l : List St) : List St := atS px py [] true [] l
def APos (l : List St) : Prop := ∀ s ∈ l, 0 ≤ s.c.a
theorem atL_ann (px py : Int) {l : List St} (h : clpE 0 l = 0) (ha : APos l) : atL px py l = outH px py ((ann [] l).map (hs px py)) := by
  have := at_ann px py l [] [] h ha
  show atS px py (bls px py []) (inO px py []) [] l = _
  rw [this]
  split <;> rfl
theorem APos.sub {l m : List St} (h : APos l) (k : m.Sublist l) : APos m := fun s hs => h s (k.subset hs)
theorem norL_sub (l : List St) : (norL l).Sublist l := by
  unfold norL
  refine (idl_sub (bz_idl St.k _ [])).trans ?_
  have := (dro_sub (dro_kepN (ann [] l))).map Prod.fst
  rwa [ann_fst] at this
/-- Norm shows the same. -/
theorem at_norL (px py : Int) {l : List St} (h : clpE 0 l = 0) (ha : APos l) : atL px py (norL l) = atL px py l := by
  rw [atL_ann px py (norL_clp h) (ha.sub (norL_sub l)), atL_ann px py h ha, ann_norL]
  have h1 := outH_idl px py (bz_idl (fun p : St × Rc => p.1.k) (kepN (ann [] l)) [])
  have h2 := outH_kepN px py (ann [] l) (ann_gd l [] 0 h)
  exact h1.1.symm.trans h2.1
/-- What is shown there is what is touched there. -/
theorem at_any (px py : Int) {l : List St} (h : clpE 0 l = 0) (ha : APos l) : (atL px py l = [] ↔ (plA (ann [] l)).any (fun a => zHa a px py) = false) := by
  rw [atL_ann px py h ha, outH_ne]
  have hg := ann_gd l [] 0 h
  generalize ann [] l = A at *
  have e : (A.map (hs px py)).any (dH px py) = (plA A).any (fun a => zHa a px py) := by
    induction A with
    | nil => rfl
    | cons p A ih =>
      rw [List.map_cons, List.any_cons, ih fun q hq => hg q (List.mem_cons_of_mem p hq), ← hg p List.mem_cons_self px py]
      unfold plA
      rw [List.flatMap_cons, List.any_append]
  rw [e]

/-- Clips below one more clip. -/
def Und (px py : Int) (b : Bool) : List Rc → List Rc → Prop
  | [], ds => ∃ q, ds = [q] ∧ zHa q px py = b
  | c :: cs, ds => ∃ c' t, ds = c' :: t ∧ zHa c' px py = (b && zHa c px py) ∧ Und px py b cs t
theorem und_in {px py : Int} {b : Bool} : ∀ {cs cs' : List Rc}, Und px py b cs cs' → inO px py cs' = (b && inO px py cs)
  | [], _, h => by
    obtain ⟨q, rfl, h⟩ := h
    show zHa q px py = (b && true)
    rw [h, Bool.and_true]
  | _ :: _, _, h => by
    obtain ⟨c', t, rfl, h, _⟩ := h
    exact h
theorem und_nxt {px py : Int} {b : Bool} {cs cs' : List Rc} (h : Und px py b cs cs') {s : St} (hn : ¬ (s.k = 5 ∧ cs.length = 0)) : Und px py b (nxC cs s) (nxC cs' s) := by
  unfold nxC
  by_cases k4 : s.k = 4
  · rw [if_pos k4, if_pos k4]
    refine ⟨_, _, rfl, ?_, h⟩
    rw [shR_has, shR_has, und_in h, Bool.and_assoc]
  · rw [if_neg k4, if_neg k4]
    by_cases k5 : s.k = 5
    · rw [if_pos k5, if_pos k5]
      cases cs with
      | nil => exact absurd ⟨k5, rfl⟩ hn
      | cons c cs =>
        obtain ⟨c', t, rfl, _, h⟩ := h
        exact h
    · rw [if_neg k5, if_neg k5]
      exact h
theorem und_ann {px py : Int} {b : Bool} : ∀ (l : List St) {cs cs' : List Rc}, Und px py b cs cs' → clpE cs.length l = 0 → (ann cs' l).map (hs px py) = ((ann cs l).map (hs px py)).map fun p => (p.1, b && p.2)
  | [], _, _, _, _ => rfl
  | s :: l, cs, cs', h, hc => by
    obtain ⟨h1, h2, h3⟩ := clpE_cons hc
    rw [← nxC_len] at h3
    show hs px py (s, shR cs' s) :: (ann (nxC cs' s) l).map (hs px py) = (s, b && zHa (shR cs s) px py) :: _
    rw [und_ann l (und_nxt h h2) h3]
    congr 1
    show (s, zHa (shR cs' s) px py) = _
    rw [shR_has, shR_has, und_in h, Bool.and_assoc]
theorem end_und : ∀ (l : List St) (cs ds : List Rc), clpE cs.length l = 0 → endC (cs ++ ds) l = ds
  | [], cs, ds, h => by
    unfold clpE at h
    split at h
    · cases h
    · next h1 =>
      have : cs = [] := List.length_eq_zero_iff.1 (by omega)
      rw [this]
      rfl
  | s :: l, cs, ds, h => by
    obtain ⟨h1, h2, h3⟩ := clpE_cons h
    have e : ∃ cs', nxC (cs ++ ds) s = cs' ++ ds ∧ cs'.length = opn cs.length s := by
      unfold nxC opn
      by_cases k4 : s.k = 4
      · rw [if_pos k4, if_pos k4]
        exact ⟨shR (cs ++ ds) s :: cs, rfl, rfl⟩
      · rw [if_neg k4, if_neg k4]
        by_cases k5 : s.k = 5
        · rw [if_pos k5, if_pos k5]
          cases cs with
          | nil => exact absurd ⟨k5, rfl⟩ h2
          | cons c cs => exact ⟨cs, rfl, rfl⟩
        · rw [if_neg k5, if_neg k5]
          exact ⟨cs, rfl, rfl⟩
    obtain ⟨cs', e1, e2⟩ := e
    show endC (nxC (cs ++ ds) s) l = ds
    rw [e1]
    exact end_und l cs' ds (by rw [e2]; exact h3)
theorem clp_app : ∀ (a b : List St) (n : Nat), clpE n a = 0 → clpE n (a ++ b) = clpE 0 b
  | [], b, n, h => by
    unfold clpE at h
    split at h
    · cases h
    · next h1 =>
      have : n = 0 := by omega
      rw [this]
      rfl
  | s :: a, b, n, h => by
    obtain ⟨h1, h2, h3⟩ := clpE_cons h
    show clpE n (s :: (a ++ b)) = _
    rw [clpE, if_neg (by simp [h1]), if_neg h2]
    exact clp_app a b _ h3
theorem clp_more : ∀ (a : List St) (n : Nat), clpE n a = 0 → clpE (n + 1) (a ++ [opeS]) = 0
  | [], n, h => by
    unfold clpE at h
    split at h
    · cases h
    · next h1 =>
      have : n = 0 := by omega
      rw [this]
      rfl
  | s :: a, n, h => by
    obtain ⟨h1, h2, h3⟩ := clpE_cons h
    refine clpE_mk h1 (fun e => by omega) ?_
    have e : opn (n + 1) s = opn n s + 1 := by
      unfold opn
      by_cases k4 : s.k = 4
      · rw [if_pos k4, if_pos k4]
      · rw [if_neg k4, if_neg k4]
        by_cases k5 : s.k = 5
        · rw [if_pos k5, if_pos k5]
          have : n ≠ 0 := fun e => h2 ⟨k5, e⟩
          omega
        · rw [if_neg k5, if_neg k5]
    rw [e]
    exact clp_more a _ h3
theorem one_clip {q : Rc} (h : zEm q = false) : oneE (cliS q) = 0 := by
  have h2 : zMa q = true := may_of h
  have e1 : wroK (cliS q) = false := rfl
  have e2 : wroF (cliS q) = false := rfl
  unfold oneE
  rw [e1, e2]
  show (if zMa q = true then (0 : Int) else 5) = 0
  rw [if_pos h2]
theorem grp_clp {l : List St} (h : clpE 0 l = 0) {q : Rc} (hq : zEm q = false) : clpE 0 (grpL (ann [] l) q) = 0 := by
  unfold grpL
  refine idl_clp (bz_idl St.k _ []) 0 ?_
  refine clpE_mk (one_clip hq) (fun e => by cases e.1) ?_
  exact clp_more _ 0 (dro_clp l [] 0 (dro_wit q _) h)
theorem grp_len (l : List St) (q : Rc) : (grpL (ann [] l) q).length ≤ l.length + 2 := by
  unfold grpL
  refine Nat.le_trans (busy_len _) ?_
  have := dro_len (dro_wit q (ann [] l))
  rw [ann_len] at this
  simp
  omega
/-- One piece of a list that is cut to a region, place by place. -/
theorem grp_out (px py : Int) {l : List St} (h : clpE 0 l = 0) {q : Rc} (hq : zEm q = false) :
    outH px py ((ann [] (grpL (ann [] l) q)).map (hs px py)) = (if zHa q px py = true then outH px py ((ann [] l).map (hs px py)) else []) ∧
    ((ann [] (grpL (ann [] l) q)).map (hs px py)).any oH = (zHa q px py && ((ann [] l).map (hs px py)).any oH) ∧ endC [] (grpL (ann [] l) q) = [] := by
  have hd := dro_wit q (ann [] l)
  have hg := ann_gd l [] 0 h
  have hc := dro_clp l [] 0 hd h
  have he := dro_ann l [] hd
  have hsub := dro_sub hd
  have hN := grp_clp h hq
  have hW : ∀ p ∈ ann [] l, zHa q px py = true → witP q p = false → dH px py (hs px py p) = false := by
    intro p hp hqp hw
    rw [← hg p hp px py, List.any_eq_false]
    intro a ha hap
    unfold witP at hw
    rw [Bool.or_eq_false_iff, List.any_eq_false] at hw
    exact hw.2 a ha (ov_has hap hqp)
  have key : ∀ A : List (St × Rc), (∀ p ∈ A, zHa q px py = true → witP q p = false → dH px py (hs px py p) = false) → zHa q px py = true → outH px py ((A.filter (witP q)).map (hs px py)) = outH px py (A.map (hs px py)) ∧ ((A.filter (witP q)).map (hs px py)).any oH = (A.map (hs px py)).any oH := by
    intro A
    induction A with
    | nil => intro _ _; exact ⟨rfl, rfl⟩
    | cons p A ih =>
      intro hA hqp
      obtain ⟨i1, i2⟩ := ih (fun x hx => hA x (List.mem_cons_of_mem p hx)) hqp
      rw [List.filter_cons]
      by_cases hw : witP q p = true
      · rw [if_pos hw, List.map_cons, List.map_cons, outH, outH, List.any_cons, List.any_cons, i1, i2]
        exact ⟨rfl, rfl⟩
      · have e := hA p List.mem_cons_self hqp (Bool.eq_false_iff.2 hw)
        rw [if_neg hw, i1, i2, List.map_cons]
        have := outH_drop px py e [] (A.map (hs px py))
        exact ⟨this.1.symm, this.2.symm⟩
  have eC : shR [] (cliS q) = q := by
    unfold shR
    show (if zEm q = true then zr else q) = q
    rw [if_neg (by simp [hq])]
  refine ⟨?_, ?_, ?_⟩
  rotate_left 2
  · have := end_und (grpL (ann [] l) q) [] [] hN
    exact this
  all_goals
    unfold grpL
    rw [ann_busy]
    have hI := outH_idl px py (bz_idl (fun p : St × Rc => p.1.k) (ann [] (cliS q :: (((ann [] l).filter (witP q)).map Prod.fst ++ [opeS]))) [])
    have e1 : ann [] (cliS q :: (((ann [] l).filter (witP q)).map Prod.fst ++ [opeS])) = (cliS q, q) :: (ann [q] (((ann [] l).filter (witP q)).map Prod.fst) ++ ann (endC [q] (((ann [] l).filter (witP q)).map Prod.fst)) [opeS]) := by
      show (cliS q, shR [] (cliS q)) :: ann [shR [] (cliS q)] _ = _
      rw [eC, ann_app]
    have e2 : endC [q] (((ann [] l).filter (witP q)).map Prod.fst) = [q] := end_und _ [] [q] hc
    have e3 : (ann [q] (((ann [] l).filter (witP q)).map Prod.fst)).map (hs px py) = (((ann [] l).filter (witP q)).map (hs px py)).map fun p => (p.1, zHa q px py && p.2) := by
      rw [und_ann (b := zHa q px py) _ (cs := []) (show Und px py (zHa q px py) [] [q] from ⟨q, rfl, rfl⟩) hc, he]
    have d1 := outH_drop px py (hs_clip (px := px) (py := py) (p := (cliS q, q)) (.inl rfl)) [] ((ann [q] (((ann [] l).filter (witP q)).map Prod.fst) ++ ann [q] [opeS]).map (hs px py))
    have d2 := outH_drop px py (hs_clip (px := px) (py := py) (p := (opeS, shR [q] opeS)) (.inr rfl)) ((ann [q] (((ann [] l).filter (witP q)).map Prod.fst)).map (hs px py)) []
    rw [e1, e2, List.reverse_nil, List.nil_append] at hI
    rw [e1, e2]
  · refine hI.1.symm.trans ?_
    rw [List.map_cons]
    refine d1.1.trans ?_
    rw [List.nil_append, List.map_append]
    refine d2.1.trans ?_
    rw [List.append_nil, e3]
    cases hqp : zHa q px py
    · simp only [Bool.false_and, Bool.false_eq_true, if_false]
      generalize List.map (hs px py) ((ann [] l).filter (witP q)) = X
      induction X with
      | nil => rfl
      | cons x X ih =>
        rw [List.map_cons, outH]
        have : dH px py (x.1, false) = false := rfl
        rw [this, ih]
        rfl
    · simp only [Bool.true_and, if_true]
      rw [show (fun p : St × Bool => (p.1, p.2)) = id from rfl, List.map_id]
      exact (key _ hW hqp).1
  · refine hI.2.symm.trans ?_
    rw [List.map_cons]
    refine d1.2.trans ?_
    rw [List.nil_append, List.map_append]
    refine d2.2.trans ?_
    rw [List.append_nil, e3]
    cases hqp : zHa q px py
    · simp only [Bool.false_and]
      generalize List.map (hs px py) ((ann [] l).filter (witP q)) = X
      induction X with
      | nil => rfl
      | cons x X ih =>
        rw [List.map_cons, List.any_cons, ih]
        rfl
    · simp only [Bool.true_and]
      rw [show (fun p : St × Bool => (p.1, p.2)) = id from rfl, List.map_id]
      exact (key _ hW hqp).2
/-- How often a place lies in a rectangle of a list. -/
def cntR (px py : Int) (F : List Rc) : Nat := (F.filter fun q => zHa q px py).length
theorem wit_clp {l : List St} (h : clpE 0 l = 0) : ∀ {F : List Rc}, (∀ q ∈ F, zEm q = false) → clpE 0 (witA l F) = 0
  | [], _ => rfl
  | q :: F, hF => by
    unfold witA
    rw [List.flatMap_cons, clp_app _ _ 0 (grp_clp h (hF q List.mem_cons_self))]
    exact wit_clp h fun x hx => hF x (List.mem_cons_of_mem q hx)
theorem wit_len (l : List St) : ∀ F : List Rc, (witA l F).length ≤ F.length * (l.length + 2)
  | [] => Nat.zero_le _
  | q :: F => by
    have h1 := grp_len l q
    have h2 := wit_len l F
    unfold witA at h2 ⊢
    rw [List.flatMap_cons, List.length_append, List.length_cons, Nat.add_mul]
    omega
theorem wit_out (px py : Int) {l : List St} (h : clpE 0 l = 0) : ∀ {F : List Rc}, (∀ q ∈ F, zEm q = false) → cntR px py F ≤ 1 →
    outH px py ((ann [] (witA l F)).map (hs px py)) = (if F.any (fun q => zHa q px py) = true then outH px py ((ann [] l).map (hs px py)) else []) ∧
    ((ann [] (witA l F)).map (hs px py)).any oH = (F.any (fun q => zHa q px py) && ((ann [] l).map (hs px py)).any oH)
  | [], _, _ => ⟨rfl, rfl⟩
  | q :: F, hF, hc => by
    obtain ⟨g1, g2, g3⟩ := grp_out px py h (hF q List.mem_cons_self)
    have hc' : cntR px py F ≤ 1 := by
      unfold cntR at hc ⊢
      rw [List.filter_cons] at hc
      split at hc
      · rw [List.length_cons] at hc
        omega
      · exact hc
    obtain ⟨i1, i2⟩ := wit_out px py h (fun x hx => hF x (List.mem_cons_of_mem q hx)) hc'
    have e : ann [] (witA l (q :: F)) = ann [] (grpL (ann [] l) q) ++ ann [] (witA l F) := by
      show ann [] (List.flatMap _ (q :: F)) = _
      rw [List.flatMap_cons, ann_app, g3]
      rfl
    rw [e, List.map_append, outH_app, List.any_append, i1, i2, g1, g2, List.any_cons]
    cases hq : zHa q px py
    · simp
    · have hz : F.any (fun q => zHa q px py) = false := by
        unfold cntR at hc
        rw [List.filter_cons, if_pos hq, List.length_cons] at hc
        have : F.filter (fun q => zHa q px py) = [] := List.length_eq_zero_iff.1 (by omega)
        rw [List.filter_eq_nil_iff] at this
        rw [List.any_eq_false]
        exact this
      rw [hz]
      simp
theorem wit_pos {l : List St} (h : APos l) (F : List Rc) : APos (witA l F) := by
  intro s hs
  unfold witA at hs
  obtain ⟨q, _, hs⟩ := List.mem_flatMap.1 hs
  unfold grpL at hs
  have := (idl_sub (bz_idl St.k _ [])).subset hs
  simp only [List.reverse_nil, List.nil_append, List.mem_cons, List.mem_append, List.not_mem_nil, or_false] at this
  rcases this with rfl | h2 | rfl
  · exact Int.le_refl _
  · have h3 := ((dro_sub (dro_wit q (ann [] l))).map Prod.fst).subset h2
    rw [ann_fst] at h3
    exact h s h3
  · exact Int.le_refl _
/-- Cut to rectangles that lie apart, a list shows the same there, and nothing elsewhere. -/
theorem at_wit (px py : Int) {l : List St} (h : clpE 0 l = 0) (ha : APos l) {F : List Rc} (hF : ∀ q ∈ F, zEm q = false) (hc : cntR px py F ≤ 1) :
    atL px py (witA l F) = if F.any (fun q => zHa q px py) = true then atL px py l else [] := by
  rw [atL_ann px py (wit_clp h hF) (wit_pos ha F), atL_ann px py h ha]
  exact (wit_out px py h hF hc).1

end Go.Proofs.YtleoaanjcccooaaGreatDoor
