/-
  Texts of this claim, one behind the other: what each is about stands ahead of it.
-/
import Derived.Test.YtbghjmkgicdnoaaK11
import Derived.Test.YtbghjmkgicdnoaaK18
import Derived.Test.YtbghjmkgicdnoaaK14
import Derived.Deep.RegionWith
/-
  A list of strokes, a point that came in: written out.
-/
namespace Go.Proofs.Ytbghjmkgicdnoaa
open Go.ChangeShapes Go.WideShapes Go.ChangeAt Go.RowKit Go.Joins

theorem cells_c : Try.prog.cellsOf 29 = 4 := by kernel_rfl
theorem cells_u8 : Try.prog.cellsOf 5 = 1 := by kernel_rfl
theorem cells_t : Try.prog.cellsOf 9 = 1 := by kernel_rfl
theorem cells_st : Try.prog.cellsOf 31 = 15 := by kernel_rfl

theorem trod_struct6 {H : Type} {enc : TypeId × Value → H} {P : Program} {w : World} {base : Nat} {spare : Nat → Bool} {held : Bool} {t : TypeId} {f0 f1 f2 f3 f4 f5 : Field} {fuel : Nat} {cs : List Value} {x : DataW H × List MemPlace} (ht : P.underlying t = some (.struct #[f0, f1, f2, f3, f4, f5])) (h : DataW.trod enc P w base spare held fuel t cs = some x) :
    ∃ y0 y1 y2 y3 y4 y5 n, cs.length = P.cellsOf t ∧ DataW.trod enc P w base spare held n f0.type ((cs.drop f0.offset).take (P.cellsOf f0.type)) = some y0 ∧
      DataW.trod enc P w base spare held n f1.type ((cs.drop f1.offset).take (P.cellsOf f1.type)) = some y1 ∧ DataW.trod enc P w base spare held n f2.type ((cs.drop f2.offset).take (P.cellsOf f2.type)) = some y2 ∧
      DataW.trod enc P w base spare held n f3.type ((cs.drop f3.offset).take (P.cellsOf f3.type)) = some y3 ∧ DataW.trod enc P w base spare held n f4.type ((cs.drop f4.offset).take (P.cellsOf f4.type)) = some y4 ∧ DataW.trod enc P w base spare held n f5.type ((cs.drop f5.offset).take (P.cellsOf f5.type)) = some y5 := by
  obtain ⟨xs, n, _, rfl, hl, hlen, hf⟩ := DataW.trod_struct ht h
  match xs, hlen with
  | [y0, y1, y2, y3, y4, y5], _ => exact ⟨y0, y1, y2, y3, y4, y5, n, hl, by simpa using hf 0 f0 rfl, by simpa using hf 1 f1 rfl, by simpa using hf 2 f2 rfl, by simpa using hf 3 f3 rfl, by simpa using hf 4 f4 rfl, by simpa using hf 5 f5 rfl⟩

theorem colZ_cells {H : Type} {enc : TypeId × Value → H} {W : World} {b : Nat} {sp : Nat → Bool} {held : Bool} {fuel : Nat} {c0 c1 c2 c3 : Value} {x : DataW H × List MemPlace} (h : DataW.trod enc Try.prog W b sp held fuel 29 [c0, c1, c2, c3] = some x) :
    ∃ c : Co, c0 = .int .u8 c.r ∧ c1 = .int .u8 c.g ∧ c2 = .int .u8 c.b ∧ c3 = .int .u8 c.a ∧ c.ok := by
  obtain ⟨y0, y1, y2, y3, n, _, _, h0, h1, h2, h3⟩ := trod_struct4 Try.underlying29 h
  simp [cells_u8] at h0 h1 h2 h3
  obtain ⟨a0, e0, _, w0⟩ := DataW.trod_int Try.underlying5 h0
  obtain ⟨a1, e1, _, w1⟩ := DataW.trod_int Try.underlying5 h1
  obtain ⟨a2, e2, _, w2⟩ := DataW.trod_int Try.underlying5 h2
  obtain ⟨a3, e3, _, w3⟩ := DataW.trod_int Try.underlying5 h3
  simp at e0 e1 e2 e3
  have b0 := bounds_u8 w0
  have b1 := bounds_u8 w1
  have b2 := bounds_u8 w2
  have b3 := bounds_u8 w3
  refine ⟨⟨a0, a1, a2, a3⟩, e0, e1, e2, e3, ?_⟩
  unfold Co.ok By
  dsimp only
  omega

set_option maxRecDepth 100000 in
theorem rectZ_cells {H : Type} {enc : TypeId × Value → H} {W : World} {b : Nat} {sp : Nat → Bool} {held : Bool} {fuel : Nat} {cs : List Value} {x : DataW H × List MemPlace} (h : DataW.trod enc Try.prog W b sp held fuel 27 cs = some x) :
    ∃ r : Rc, cs = [.int .i64 r.x, .int .i64 r.y, .int .i64 r.w, .int .i64 r.h] ∧ I64 r.x ∧ I64 r.y ∧ I64 r.w ∧ I64 r.h := by
  obtain ⟨y0, y1, n, _, hl, h0, h1⟩ := trod_struct2 Try.underlying27 h
  rw [cells_r] at hl
  match cs, hl with
  | [c0, c1, c2, c3], _ =>
    simp [cells_p, cells_s] at h0 h1
    obtain ⟨y00, y01, n0, _, _, h00, h01⟩ := trod_struct2 Try.underlying23 h0
    obtain ⟨y10, y11, n1, _, _, h10, h11⟩ := trod_struct2 Try.underlying25 h1
    simp [cells_i] at h00 h01 h10 h11
    obtain ⟨a0, e0, _, w0⟩ := DataW.trod_int Try.underlying3 h00
    obtain ⟨a1, e1, _, w1⟩ := DataW.trod_int Try.underlying3 h01
    obtain ⟨a2, e2, _, w2⟩ := DataW.trod_int Try.underlying3 h10
    obtain ⟨a3, e3, _, w3⟩ := DataW.trod_int Try.underlying3 h11
    simp at e0 e1 e2 e3
    subst e0 e1 e2 e3
    exact ⟨⟨a0, a1, a2, a3⟩, rfl, i64_of w0, i64_of w1, i64_of w2, i64_of w3⟩

set_option maxRecDepth 100000 in
theorem stroke_cells {H : Type} {enc : TypeId × Value → H} {W : World} {b : Nat} {sp : Nat → Bool} {held : Bool} {fuel : Nat} {cs : List Value} {x : DataW H × List MemPlace} (h : DataW.trod enc Try.prog W b sp held fuel 31 cs = some x) :
    ∃ s : St, cs = sCel s ∧ WfS s := by
  obtain ⟨y0, y1, y2, y3, y4, y5, n, hl, h0, h1, h2, h3, h4, h5⟩ := trod_struct6 Try.underlying31 h
  rw [cells_st] at hl
  match cs, hl with
  | [c0, c1, c2, c3, c4, c5, c6, c7, c8, c9, c10, c11, c12, c13, c14], _ =>
    simp [cells_u8, cells_r, cells_c, cells_t, cells_i] at h0 h1 h2 h3 h4 h5
    obtain ⟨a0, e0, _, w0⟩ := DataW.trod_int Try.underlying5 h0
    obtain ⟨r, er, i1, i2, i3, i4⟩ := rectZ_cells h1
    obtain ⟨c, d0, d1, d2, d3, okc⟩ := colZ_cells h2
    obtain ⟨k, f0, f1, f2, f3, okk⟩ := colZ_cells h3
    obtain ⟨t, et, _, wt⟩ := DataW.trod_string Try.underlying9 h4
    obtain ⟨m, em, _, wm⟩ := DataW.trod_int Try.underlying3 h5
    simp at e0 er et em
    obtain ⟨r1, r2, r3, r4⟩ := er
    have hb := bounds_u8 w0
    refine ⟨⟨a0, r, c, k, t, m⟩, ?_, ⟨by dsimp only; omega, by dsimp only; omega⟩, ⟨i1, i2, i3, i4⟩, okc, okk, wt, i64_of wm⟩
    rw [e0, r1, r2, r3, r4, d0, d1, d2, d3, f0, f1, f2, f3, et, em]
    rfl

theorem strokes_of {W : World} {g o : Nat} : ∀ (n : Nat), (∀ i, i < n → ∃ s : St, StAt W g (o + i * 15) s ∧ WfS s) → ∃ l : List St, l.length = n ∧ (∀ i (h : i < l.length), StAt W g (o + i * 15) l[i]) ∧ Wfs l
  | 0, _ => ⟨[], rfl, fun i h => absurd h (Nat.not_lt_zero i), fun r hr => by simp at hr⟩
  | n + 1, h => by
    obtain ⟨rs, hl, ha, hw⟩ := strokes_of n fun i hi => h i (by omega)
    obtain ⟨r, hr, hz⟩ := h n (by omega)
    refine ⟨rs ++ [r], by simp [hl], fun i hi => ?_, fun x hx => ?_⟩
    · by_cases e : i < rs.length
      · rw [List.getElem_append_left e]; exact ha i e
      · have : i = n := by simp at hi; omega
        subst this
        subst hl
        rw [List.getElem_concat_length rfl]
        exact hr
    · rcases List.mem_append.1 hx with hx | hx
      · exact hw x hx
      · simp at hx; subst hx; exact hz

set_option maxRecDepth 100000 in
theorem open_strokes {H : Type} {enc : TypeId × Value → H} {W : World} {base b : Nat} {sp : Nat → Bool} {held : Bool} {v : Value} {d : DataW H} {p : List MemPlace}
    (hv : Value.okWide Try.prog W .any base 36 v) (h : DataW.Trod enc Try.prog W b sp held 36 v d p) : ∃ l : List St, LsS W v l ∧ Wfs l ∧ NoNil v := by
  obtain ⟨oa, len, cap, rfl⟩ := okWide_slice Try.underlying36 hv
  obtain ⟨fuel, hf⟩ := h
  rcases DataW.trod_slice Try.underlying36 hf with ⟨he, _⟩ | ⟨a, len', cap', el, rest, n, _, he, _, _, hlc, hcm, hel, hat, _, _⟩
  · simp [Value.cells] at he
    obtain ⟨rfl, rfl, rfl⟩ := he
    exact ⟨[], ⟨none, 0, rfl, Nat.le_refl _, fun h => by simp at h⟩, fun r hr => by simp at hr, fun c hc => by injection hc with _ _ h; exact h.symm⟩
  · simp [Value.cells] at he
    obtain ⟨rfl, rfl, rfl⟩ := he
    have hnn : NoNil (.slice (some a) len cap) := fun c hc => by injection hc with h1 _ _; cases h1
    rw [cells_st] at hat
    obtain ⟨g, o, s⟩ := a
    have key : ∀ i, i < len → ∃ r : St, (∀ j, j < 15 → W.cell? ((Addr.mk g o s).add (i * 15) |>.add j) = (sCel r)[j]?) ∧ WfS r := by
      intro i hi
      have h1 := hat i hi
      obtain ⟨bb, hb⟩ : ∃ bb, el[i]? = some bb := ⟨el[i]'(by omega), List.getElem?_eq_getElem (by omega)⟩
      rw [hb] at h1
      obtain ⟨ce, hce, hte⟩ := Option.bind_eq_some_iff.1 h1
      obtain ⟨r, hr, hw⟩ := stroke_cells hte
      obtain ⟨_, _, hcc⟩ := World.cells?_some hce
      exact ⟨r, fun j hj => by rw [hcc j hj, hr], hw⟩
    by_cases h0 : len = 0
    · subst h0
      exact ⟨[], ⟨_, cap, rfl, Nat.zero_le _, fun h => by simp at h⟩, fun r hr => by simp at hr, hnn⟩
    obtain rfl : s = none := by
      obtain ⟨r, hr, _⟩ := key 0 (by omega)
      have h00 := hr 0 (by omega)
      have : (Addr.add (Addr.add ⟨g, o, s⟩ (0 * 15)) 0) = ⟨g, o, s⟩ := by simp [Addr.add]
      rw [this] at h00
      exact Go.Proofs.cell_spot h00
    obtain ⟨rs, hl, ha, hw⟩ := strokes_of (W := W) (g := g) (o := o) len fun i hi => by
      obtain ⟨r, hr, hz⟩ := key i hi
      have e := fun j hj => hr j hj
      simp only [Addr.add_lit] at e
      exact ⟨r, stat_iff.2 e, hz⟩
    subst hl
    have hg : g < W.heap.size := by
      have h1 := (ha 0 (by omega)).1
      rcases Nat.lt_or_ge g W.heap.size with h' | h'
      · exact h'
      · simp [World.cell?, Array.getElem?_eq_none h'] at h1
    exact ⟨rs, ⟨_, cap, rfl, hlc, fun _ => ⟨g, o, rfl, hg, ha⟩⟩, hw, hnn⟩

set_option maxRecDepth 100000 in
theorem open_pt {H : Type} {enc : TypeId × Value → H} {W : World} {base b : Nat} {sp : Nat → Bool} {held : Bool} {v : Value} {d : DataW H} {p : List MemPlace}
    (hv : Value.okWide Try.prog W .any base 23 v) (h : DataW.Trod enc Try.prog W b sp held 23 v d p) : ∃ x y : Int, v = .agg #[.int .i64 x, .int .i64 y] ∧ I64 x ∧ I64 y := by
  obtain ⟨c0, c1, y0, y1, m, rfl, rfl, rfl, hy0, hy1⟩ := open_agg2 Try.underlying23 (by kernel_rfl) cells_p hv h
  obtain ⟨a, e0, rfl, wa⟩ := DataW.trod_int Try.underlying3 hy0
  obtain ⟨c, e1, rfl, wc⟩ := DataW.trod_int Try.underlying3 hy1
  simp at e0 e1
  subst e0 e1
  exact ⟨a, c, rfl, i64_of wa, i64_of wc⟩

end Go.Proofs.Ytbghjmkgicdnoaa

/-
  What the statements of layer 13 ask of package list: each call tells the document's answer.
-/
namespace Go.Proofs.Ytbghjmkgicdnoaa
open Go.RowKit

/-- What is asked of Check. -/
def LCheck : Prop := ∀ (l : List St) (v : Value) (w : World), LsS w v l → Wfs l → Calls Try.prog 10 #[v] w fun e w' => e = .returned (.int .i64 (chkS l)) ∧ Below w.heap.size w w'

def LFlat : Prop := ∀ (l : List St) (v : Value) (w : World), LsS w v l → Wfs l → Calls Try.prog 33 #[v] w fun e w' => AnsF w l e w'

def LBound : Prop := ∀ (l : List St) (v : Value) (w : World), LsS w v l → Wfs l → Calls Try.prog 13 #[v] w fun e w' => Ans w (bouL l) (bouE l) e w'

def LNorm : Prop := ∀ (l : List St) (v : Value) (w : World), LsS w v l → Wfs l → Calls Try.prog 15 #[v] w fun e w' => AnsS w (norE l) (chkS l) e w'

def LWithin : Prop := ∀ (l : List St) (r : List Rc) (v vr : Value) (w : World), LsS w v l → LsR w vr r → Wfs l → I64s r → NoNil vr → Calls Try.prog 16 #[v, vr] w fun e w' => AnsS w (witG l r) (witE l r) e w'

def LJoin : Prop := ∀ (a b : List St) (va vb : Value) (w : World), LsS w va a → LsS w vb b → NoNil va → NoNil vb → Wfs a → Wfs b → a.length ≤ 20000 → b.length ≤ 20000 → Calls Try.prog 19 #[va, vb] w fun e w' => AnsS w (joiL a b) (joiE a b) e w'

def LMoved : Prop := ∀ (l : List St) (p q : Int) (v : Value) (w : World), LsS w v l → NoNil v → Wfs l → I64 p → I64 q → Calls Try.prog 18 #[v, .agg #[.int .i64 p, .int .i64 q]] w fun e w' => AnsS w (movG l p q) (movF l p q) e w'

def LSame : Prop := ∀ (a b : List St) (va vb : Value) (w : World), LsS w va a → LsS w vb b → a.length ≤ 20000 → Calls Try.prog 25 #[va, vb] w fun e w' => e = .returned (.bool (samZ a b)) ∧ Below w.heap.size w w'

theorem LenS.nonil {g n cap : Nat} : NoNil (.slice (some ⟨g, 0, none⟩) n cap) := fun c hc => by injection hc with h1 _ _; cases h1
/-- A row that lies elsewhere than what is written over. -/
theorem OwR.far {lo : Nat} {W W' : World} {v : Value} {rs : List Rc} {ob : Option Nat} (h : OwR lo W v rs) (hg : W.grownBy W' ob) (hf : ∀ g, v.ownBlock = some g → ob ≠ some g) : OwR lo W' v rs := by
  refine World.ownsRow.kept h hg ?_
  cases e : v.ownBlock with
  | none => exact .inl rfl
  | some g => exact .inr fun c => hf g e c.symm
theorem OwS.far {lo : Nat} {W W' : World} {v : Value} {rs : List St} {ob : Option Nat} (h : OwS lo W v rs) (hg : W.grownBy W' ob) (hf : ∀ g, v.ownBlock = some g → ob ≠ some g) : OwS lo W' v rs := by
  refine World.ownsRow.kept h hg ?_
  cases e : v.ownBlock with
  | none => exact .inl rfl
  | some g => exact .inr fun c => hf g e c.symm
theorem LenS.far {lo hi : Nat} {W W' : World} {v : Value} {rs : List St} {ob : Option Nat} (h : LenS lo hi W v rs) (hg : W.grownBy W' ob) (hf : ∀ g, ob = some g → hi ≤ g) : LenS lo hi W' v rs :=
  ⟨h.1.far hg fun g e c => by have := h.2 g e; have := hf g c; omega, h.2⟩
theorem fla1_len {l : List St} (h : l.length ≤ 20000) : (fla1 l).length ≤ 20000 := by
  unfold fla1
  split
  · rw [List.length_map]
    unfold flaL
    have := List.length_filter_le (fun p : St × Rc => drw p.1) (ann [] l)
    rw [ann_len] at this
    omega
  · simp
theorem fla2_len {l : List St} (h : l.length ≤ 20000) : (fla2 l).length ≤ 20000 := by
  unfold fla2
  split
  · rw [List.length_map]
    unfold flaL
    have := List.length_filter_le (fun p : St × Rc => drw p.1) (ann [] l)
    rw [ann_len] at this
    omega
  · simp
theorem norE_len {l : List St} (h : l.length ≤ 20000) : (norE l).length ≤ 20000 := by
  unfold norE
  split
  · have := norL_len l
    omega
  · simp
theorem witG_len (l : List St) (r : List Rc) : (witG l r).length ≤ 20000 := by
  unfold witG
  split
  · next h =>
    unfold witE at h
    split at h
    · split at h
      · split at h
        · cases h
        · omega
      · next h1 h2 => exact absurd h h2
    · next h1 => exact absurd h h1
  · simp
theorem joiL_len (a b : List St) : (joiL a b).length ≤ 20000 := by
  unfold joiL
  split
  · next h =>
    unfold joiE at h
    split at h
    · split at h
      · split at h
        · cases h
        · rw [List.length_append]; omega
      · next h1 h2 => exact absurd h h2
    · next h1 => exact absurd h h1
  · simp
theorem movG_len {l : List St} (h : l.length ≤ 20000) (p q : Int) : (movG l p q).length ≤ 20000 := by
  unfold movG
  split
  · rw [List.length_map]; exact h
  · simp
theorem ansL_len (e : Int) (F : List Rc) : (ansL e F).length ≤ 1024 := by
  unfold ansL
  split
  · next h => exact h.2
  · simp
theorem bouL_len (l : List St) : (bouL l).length ≤ 1024 := by
  unfold bouL
  split
  · exact ansL_len _ _
  · simp

end Go.Proofs.Ytbghjmkgicdnoaa

/-
  The walk of ListMoves.
-/
namespace Go.Proofs.Ytbghjmkgicdnoaa
open Go.RowKit

/-- What lies there. -/
structure MoS (n0 n1 n2 n3 n4 n5 bx : Nat) (w w2 : World) (vl vm p q a b c d : Value) (l m : List St) (px py : Int) (W : World) : Prop where
  fl : LsS W vl l
  fm : LsS W vm m
  fp : LenS n0 n1 W p l
  fq : LenS n1 n2 W q m
  fa : OwS n2 W a (joiL l m)
  fah : ∀ g, a.ownBlock = some g → g < n3
  fb : OwS n3 W b (joiL l m)
  fc : OwS n4 W c (movG l px py)
  fch : ∀ g, c.ownBlock = some g → g < n5
  fd : OwS n5 W d (movG l px py)
  fw : Below n0 w W
  fw2 : Below n2 w2 W
theorem MoS.below {n0 n1 n2 n3 n4 n5 bx : Nat} {w w2 : World} {vl vm p q a b c d : Value} {l m : List St} {px py : Int} {W W' : World} (h : MoS n0 n1 n2 n3 n4 n5 bx w w2 vl vm p q a b c d l m px py W) (h0 : n0 ≤ W.heap.size) (h2 : n2 ≤ W.heap.size) (hb : Below W.heap.size W W') : MoS n0 n1 n2 n3 n4 n5 bx w w2 vl vm p q a b c d l m px py W' :=
  ⟨h.fl.below hb, h.fm.below hb, h.fp.below hb, h.fq.below hb, h.fa.below hb, h.fah, h.fb.below hb, h.fc.below hb, h.fch, h.fd.below hb, h.fw.trans (hb.mono h0), h.fw2.trans (hb.mono h2)⟩

set_option maxRecDepth 20000 in
set_option maxHeartbeats 8000000 in
theorem moves_walk (CJ : LJoin) (CM : LMoved) (CS : LSame) (l m : List St) (px py : Int) (v vm : Value) (w : World) (hv : LsS w v l) (hn : NoNil v) (hw : Wfs l) (hv2 : LsS w vm m) (hn2 : NoNil vm) (hw2 : Wfs m) (hpx : I64 px) (hpy : I64 py) :
    Calls Try.prog 4 #[v, vm, .agg #[.int .i64 px, .int .i64 py]] w fun e w' => e = .returned (.bool true) ∧ Below w.heap.size w w' := by
  have HC : Hid (LJoin ∧ LMoved ∧ LSame) := ⟨CJ, CM, CS⟩
  have HW : Hid ((Wfs l ∧ LsS w v l ∧ NoNil v) ∧ (Wfs m ∧ LsS w vm m ∧ NoNil vm) ∧ I64 px ∧ I64 py) := ⟨⟨hw, hv, hn⟩, ⟨hw2, hv2, hn2⟩, hpx, hpy⟩
  obtain ⟨oa, cap, rfl, hc, _⟩ := hv
  obtain ⟨ob, cbm, rfl, hcm, _⟩ := hv2
  obtain ⟨n, hnn⟩ : ∃ n, n = l.length := ⟨_, rfl⟩
  obtain ⟨nm, hnm⟩ : ∃ nm, nm = m.length := ⟨_, rfl⟩
  have HN : Hid (n = l.length ∧ nm = m.length) := ⟨hnn, hnm⟩
  rw [← hnn] at hc
  rw [← hnm] at hcm
  rw [← hnn, ← hnm] at HW ⊢
  clear CJ CM CS hn hw hnn hn2 hw2 hnm hpx hpy
  by_cases h1 : 17000 < n
  · have j1 : (17000 : Int) < n := by omega
    go_enter Try.func4, Try.ntmps4
    have HB0 : Hid (Below w.heap.size w (w.alloc (.cells #[.int .i64 px, .int .i64 py] 23))) := (Below.refl _ _).alloc (Nat.le_refl _) _
    go_wp2
    go_ret
    exact ⟨rfl, HB0.out⟩
  by_cases h2 : 17000 < nm
  · have j1 : ¬ (17000 : Int) < n := by omega
    have j2 : (17000 : Int) < nm := by omega
    go_enter Try.func4, Try.ntmps4
    have HB0 : Hid (Below w.heap.size w (w.alloc (.cells #[.int .i64 px, .int .i64 py] 23))) := (Below.refl _ _).alloc (Nat.le_refl _) _
    go_wp2
    go_ret
    exact ⟨rfl, HB0.out⟩
  have j1 : ¬ (17000 : Int) < n := by omega
  have j2 : ¬ (17000 : Int) < nm := by omega
  have HL : Hid (l.length ≤ 20000 ∧ m.length ≤ 20000) := by have := HN.out; exact ⟨by omega, by omega⟩
  obtain ⟨bx, hbx⟩ : ∃ bx, bx = w.heap.size := ⟨_, rfl⟩
  have HB0 : Hid (Bk (w.alloc (.cells #[.int .i64 px, .int .i64 py] 23)) bx #[.int .i64 px, .int .i64 py] 23 ∧ Below w.heap.size w (w.alloc (.cells #[.int .i64 px, .int .i64 py] 23))) := ⟨by rw [hbx]; exact Bk.new _ _ _, (Below.refl _ _).alloc (Nat.le_refl _) _⟩
  go_enter Try.func4, Try.ntmps4
  go_wp2_with fail
  rw [← hbx]
  clear hbx
  generalize w.alloc (.cells #[.int .i64 px, .int .i64 py] 23) = W0 at *
  refine (own_any l _ W0 (HW.out.1.2.1.below HB0.out.2) HW.out.1.2.2 HL.out.1).mono ?_
  rintro e w1 ⟨p, rfl, hp, hb1⟩
  obtain ⟨gp, cp, rfl, hcp, -⟩ := hp.val
  have H1 : Hid (Below w.heap.size w w1 ∧ Bk w1 bx #[.int .i64 px, .int .i64 py] 23 ∧ LenS W0.heap.size w1.heap.size w1 (.slice (some ⟨gp, 0, none⟩) (l.length + 1) cp) l ∧ Below W0.heap.size W0 w1) := ⟨HB0.out.2.trans (hb1.mono HB0.out.2.size), HB0.out.1.below hb1, hp, hb1⟩
  clear hp hb1
  rw [← HN.out.1] at H1 hcp ⊢
  go_wp2_with fail
  refine (own_any m _ w1 (HW.out.2.1.2.1.below H1.out.1) HW.out.2.1.2.2 HL.out.2).mono ?_
  rintro e w2 ⟨q, rfl, hq, hb2⟩
  obtain ⟨gq, cq, rfl, hcq, -⟩ := hq.val
  have H2 : Hid (Below w.heap.size w w2 ∧ Bk w2 bx #[.int .i64 px, .int .i64 py] 23 ∧ LenS W0.heap.size w1.heap.size w2 (.slice (some ⟨gp, 0, none⟩) (n + 1) cp) l ∧ LenS w1.heap.size w2.heap.size w2 (.slice (some ⟨gq, 0, none⟩) (m.length + 1) cq) m ∧ Below W0.heap.size W0 w2) := by
    obtain ⟨r1, r2, r3, r4⟩ := H1.out
    exact ⟨r1.trans (hb2.mono r1.size), r2.below hb2, r3.below hb2, hq, r4.trans (hb2.mono r4.size)⟩
  have HS : Hid (w.heap.size ≤ W0.heap.size ∧ W0.heap.size ≤ w1.heap.size ∧ w1.heap.size ≤ w2.heap.size) := ⟨HB0.out.2.size, H1.out.2.2.2.size, hb2.size⟩
  have HB00 : Hid (Below w.heap.size w W0) := HB0.out.2
  clear hq hb2 H1 HB0
  rw [← HN.out.2] at H2 hcq ⊢
  have HXP : Hid (∀ W, LenS W0.heap.size w1.heap.size W (.slice (some ⟨gp, 0, none⟩) (n + 1) cp) l → LsS W (.slice (some ⟨gp, 0, none⟩) n cp) l) := fun W h => by have q := h.lss; rw [← HN.out.1] at q; exact q
  have HXQ : Hid (∀ W, LenS w1.heap.size w2.heap.size W (.slice (some ⟨gq, 0, none⟩) (nm + 1) cq) m → LsS W (.slice (some ⟨gq, 0, none⟩) nm cq) m) := fun W h => by have q := h.lss; rw [← HN.out.2] at q; exact q
  have HJ : Hid (∀ W, Below w2.heap.size w2 W → Calls Try.prog 19 #[.slice (some ⟨gp, 0, none⟩) n cp, .slice (some ⟨gq, 0, none⟩) nm cq] W fun e w' => AnsS W (joiL l m) (joiE l m) e w') := fun W h => HC.out.1 l m _ _ W (HXP.out _ (H2.out.2.2.1.below h)) (HXQ.out _ (H2.out.2.2.2.1.below h)) LenS.nonil LenS.nonil HW.out.1.1 HW.out.2.1.1 HL.out.1 HL.out.2
  go_upto_region 4 with fail
  go_cut [9, 10] (fun s9 s10 wx => s10 = .int .i64 (joiE l m) ∧ Hid (OwS w2.heap.size wx s9 (joiL l m) ∧ Below w2.heap.size w2 wx))
  case first =>
    go_region_with (go_at_call 19; refine (HJ.out _ (Below.refl _ _).drew).mono ?_; rintro e w3 ⟨a, rfl, ha⟩)
    all_goals
      go_wp2_with fail
      go_meet
      exact ⟨rfl, ha.out.1, (Below.refl _ w2).drew.trans ha.out.2⟩
  case rest =>
    obtain ⟨rfl, H3a⟩ := hcut
    generalize wc = w3 at *
    generalize u9 = a at *
    have H3 : Hid (LsS w3 (.slice oa n cap) l ∧ LsS w3 (.slice ob nm cbm) m ∧ Bk w3 bx #[.int .i64 px, .int .i64 py] 23 ∧ LenS W0.heap.size w1.heap.size w3 (.slice (some ⟨gp, 0, none⟩) (n + 1) cp) l ∧ LenS w1.heap.size w2.heap.size w3 (.slice (some ⟨gq, 0, none⟩) (nm + 1) cq) m ∧ OwS w2.heap.size w3 a (joiL l m) ∧ Below W0.heap.size W0 w3 ∧ Below w2.heap.size w2 w3 ∧ Below w.heap.size w w3) := by
      obtain ⟨r1, r2, r3, r4, r5⟩ := H2.out
      obtain ⟨q1, q2⟩ := H3a.out
      have b0 := r1.trans (q2.mono r1.size)
      exact ⟨HW.out.1.2.1.below b0, HW.out.2.1.2.1.below b0, r2.below q2, r3.below q2, r4.below q2, q1, r5.trans (q2.mono r5.size), q2, b0⟩
    clear H3a H2 HJ
    go_wp2_with fail
    refine (zjoin_any l m _ _ w3 H3.out.1 H3.out.2.1 HW.out.1.2.2 HW.out.2.1.2.2 HW.out.1.1.txs HW.out.2.1.1.txs HL.out.1 HL.out.2).mono ?_
    rintro e w4 ⟨b, rfl, hb⟩
    have H4 : Hid (LsS w4 (.slice oa n cap) l ∧ LsS w4 (.slice ob nm cbm) m ∧ Bk w4 bx #[.int .i64 px, .int .i64 py] 23 ∧ LenS W0.heap.size w1.heap.size w4 (.slice (some ⟨gp, 0, none⟩) (n + 1) cp) l ∧ LenS w1.heap.size w2.heap.size w4 (.slice (some ⟨gq, 0, none⟩) (nm + 1) cq) m ∧ OwS w2.heap.size w4 a (joiL l m) ∧ Below W0.heap.size W0 w4 ∧ Below w2.heap.size w2 w4 ∧ Below w.heap.size w w4 ∧ (∀ g, a.ownBlock = some g → g < w3.heap.size) ∧ OwS w3.heap.size w4 b (joiL l m) ∧ w3.heap.size ≤ w4.heap.size ∧ w2.heap.size ≤ w3.heap.size) := by
      obtain ⟨r1, r2, r3, r4, r5, r6, r7, r8, r9⟩ := H3.out
      obtain ⟨q1, q2⟩ := hb.out
      exact ⟨r1.below q2, r2.below q2, r3.below q2, r4.below q2, r5.below q2, r6.below q2, r7.trans (q2.mono r7.size), r8.trans (q2.mono r8.size), r9.trans (q2.mono r9.size), (fun g hg => (row_lt r6 g hg).2), q1, q2.size, r8.size⟩
    clear hb H3
    have HMv : Hid (∀ W, Below w4.heap.size w4 W → Calls Try.prog 18 #[.slice (some ⟨gp, 0, none⟩) n cp, .agg #[.int .i64 px, .int .i64 py]] W fun e w' => AnsS W (movG l px py) (movF l px py) e w') := fun W h => HC.out.2.1 l px py _ W (HXP.out _ (H4.out.2.2.2.1.below h)) LenS.nonil HW.out.1.1 HW.out.2.2.1 HW.out.2.2.2
    have c0 := fun (W : World) (h : Below w4.heap.size w4 W) => (H4.out.2.2.1.below h).at2.1
    obtain ⟨d0, d1⟩ := H4.out.2.2.1.at2
    clear c0
    go_upto_region 6 with fail
    go_cut [13, 14] (fun s13 s14 wx => s14 = .int .i64 (movF l px py) ∧ Hid (OwS w4.heap.size wx s13 (movG l px py) ∧ Below w4.heap.size w4 wx))
    case first =>
      go_region_with (go_at_call 18; refine (HMv.out _ (Below.refl _ _).drew).mono ?_; rintro e w5 ⟨c, rfl, hcc⟩)
      all_goals
        go_wp2_with fail
        go_meet
        exact ⟨rfl, hcc.out.1, (Below.refl _ w4).drew.trans hcc.out.2⟩
    case rest =>
      obtain ⟨rfl, H5a⟩ := hcut
      generalize wc = w5 at *
      generalize u13 = c at *
      have H5 : Hid (LsS w5 (.slice oa n cap) l ∧ LsS w5 (.slice ob nm cbm) m ∧ Bk w5 bx #[.int .i64 px, .int .i64 py] 23 ∧ LenS W0.heap.size w1.heap.size w5 (.slice (some ⟨gp, 0, none⟩) (n + 1) cp) l ∧ LenS w1.heap.size w2.heap.size w5 (.slice (some ⟨gq, 0, none⟩) (nm + 1) cq) m ∧ OwS w2.heap.size w5 a (joiL l m) ∧ Below W0.heap.size W0 w5 ∧ Below w2.heap.size w2 w5 ∧ (∀ g, a.ownBlock = some g → g < w3.heap.size) ∧ OwS w3.heap.size w5 b (joiL l m) ∧ OwS w4.heap.size w5 c (movG l px py) ∧ w3.heap.size ≤ w4.heap.size ∧ w2.heap.size ≤ w3.heap.size) := by
        obtain ⟨r1, r2, r3, r4, r5, r6, r7, r8, r9, r10, r11, r12, r13⟩ := H4.out
        obtain ⟨q1, q2⟩ := H5a.out
        exact ⟨r1.below q2, r2.below q2, r3.below q2, r4.below q2, r5.below q2, r6.below q2, r7.trans (q2.mono r7.size), r8.trans (q2.mono r8.size), r10, r11.below q2, q1, r12, r13⟩
      clear H5a H4 HMv d0 d1
      obtain ⟨d0, d1⟩ := H5.out.2.2.1.at2
      go_wp2_with fail
      refine (zmoved_any l px py _ w5 H5.out.1 HW.out.1.1.txs HW.out.2.2.1 HW.out.2.2.2).mono ?_
      rintro e w6 ⟨d, rfl, hd⟩
      have H6 : Hid (MoS W0.heap.size w1.heap.size w2.heap.size w3.heap.size w4.heap.size w5.heap.size bx W0 w2 (.slice oa n cap) (.slice ob nm cbm) (.slice (some ⟨gp, 0, none⟩) (n + 1) cp) (.slice (some ⟨gq, 0, none⟩) (nm + 1) cq) a b c d l m px py w6) := by
        obtain ⟨r1, r2, r3, r4, r5, r6, r7, r8, r9, r10, r11, r12, r13⟩ := H5.out
        obtain ⟨q1, q2⟩ := hd.out
        exact ⟨r1.below q2, r2.below q2, r4.below q2, r5.below q2, r6.below q2, r9, r10.below q2, r11.below q2, (fun g hg => (row_lt r11 g hg).2), q1, r7.trans (q2.mono r7.size), r8.trans (q2.mono r8.size)⟩
      have HS2 : Hid (w2.heap.size ≤ w3.heap.size ∧ w3.heap.size ≤ w4.heap.size) := ⟨H5.out.2.2.2.2.2.2.2.2.2.2.2.2, H5.out.2.2.2.2.2.2.2.2.2.2.2.1⟩
      clear hd H5 d0 d1
      have HB : Hid (∀ W W', MoS W0.heap.size w1.heap.size w2.heap.size w3.heap.size w4.heap.size w5.heap.size bx W0 w2 (.slice oa n cap) (.slice ob nm cbm) (.slice (some ⟨gp, 0, none⟩) (n + 1) cp) (.slice (some ⟨gq, 0, none⟩) (nm + 1) cq) a b c d l m px py W → Below W.heap.size W W' → MoS W0.heap.size w1.heap.size w2.heap.size w3.heap.size w4.heap.size w5.heap.size bx W0 w2 (.slice oa n cap) (.slice ob nm cbm) (.slice (some ⟨gp, 0, none⟩) (n + 1) cp) (.slice (some ⟨gq, 0, none⟩) (nm + 1) cq) a b c d l m px py W') := fun W W' h hb => h.below h.fw.size h.fw2.size hb
      have HSa : Hid (∀ W, MoS W0.heap.size w1.heap.size w2.heap.size w3.heap.size w4.heap.size w5.heap.size bx W0 w2 (.slice oa n cap) (.slice ob nm cbm) (.slice (some ⟨gp, 0, none⟩) (n + 1) cp) (.slice (some ⟨gq, 0, none⟩) (nm + 1) cq) a b c d l m px py W → Calls Try.prog 24 #[a, b] W fun e w' => e = .returned (.bool true) ∧ Below W.heap.size W w') := fun W h => by
        have q := zsame_any _ _ a b W h.fa.lss h.fb.lss (by have := joiL_len l m; omega)
        rw [samZ_self] at q
        exact q
      have HSc : Hid (∀ W, MoS W0.heap.size w1.heap.size w2.heap.size w3.heap.size w4.heap.size w5.heap.size bx W0 w2 (.slice oa n cap) (.slice ob nm cbm) (.slice (some ⟨gp, 0, none⟩) (n + 1) cp) (.slice (some ⟨gq, 0, none⟩) (nm + 1) cq) a b c d l m px py W → Calls Try.prog 24 #[c, d] W fun e w' => e = .returned (.bool true) ∧ Below W.heap.size W w') := fun W h => by
        have q := zsame_any _ _ c d W h.fc.lss h.fd.lss (by have := movG_len HL.out.1 px py; omega)
        rw [samZ_self] at q
        exact q
      have HSp : Hid (∀ W, MoS W0.heap.size w1.heap.size w2.heap.size w3.heap.size w4.heap.size w5.heap.size bx W0 w2 (.slice oa n cap) (.slice ob nm cbm) (.slice (some ⟨gp, 0, none⟩) (n + 1) cp) (.slice (some ⟨gq, 0, none⟩) (nm + 1) cq) a b c d l m px py W → Calls Try.prog 25 #[.slice (some ⟨gp, 0, none⟩) n cp, .slice (some ⟨gq, 0, none⟩) nm cq] W fun e w' => e = .returned (.bool (samZ l m)) ∧ Below W.heap.size W w') := fun W h => HC.out.2.2 l m _ _ W (HXP.out _ h.fp) (HXQ.out _ h.fq) HL.out.1
      have HSl : Hid (∀ W, MoS W0.heap.size w1.heap.size w2.heap.size w3.heap.size w4.heap.size w5.heap.size bx W0 w2 (.slice oa n cap) (.slice ob nm cbm) (.slice (some ⟨gp, 0, none⟩) (n + 1) cp) (.slice (some ⟨gq, 0, none⟩) (nm + 1) cq) a b c d l m px py W → Calls Try.prog 24 #[.slice oa n cap, .slice ob nm cbm] W fun e w' => e = .returned (.bool (samZ l m)) ∧ Below W.heap.size W w') := fun W h => zsame_any l m _ _ W h.fl h.fm (by have := HL.out.1; omega)
      have HT : Hid (∀ t : Gw w6, MoS W0.heap.size w1.heap.size w2.heap.size w3.heap.size w4.heap.size w5.heap.size bx W0 w2 (.slice oa n cap) (.slice ob nm cbm) (.slice (some ⟨gp, 0, none⟩) (n + 1) cp) (.slice (some ⟨gq, 0, none⟩) (nm + 1) cq) a b c d l m px py t.wd) := fun t => HB.out _ _ H6.out t.below
      have ne := gw_ne (Below.refl 0 w6)
      generalize joiE l m = E1 at *
      generalize movF l px py = E2 at *
      generalize samZ l m = sb at *
      go_upto_region 8 with fail
      refine wp_region_gw (by kernel_rfl) (by kernel_rfl) ?_
      repeat (go_big_quiet_step (first
        | (go_at_call_of 24 a; exact gw_call (HSa.out _ (HT.out _)))
        | (go_at_call_of 24 c; exact gw_call (HSc.out _ (HT.out _)))
        | (go_at_call 24; exact gw_call (HSl.out _ (HT.out _)))
        | (go_at_call 25; exact gw_call (HSp.out _ (HT.out _)))))
      refine wpQuiet_nil ?_
      rintro _ ⟨tt, rfl⟩
      have H7 : Hid (MoS W0.heap.size w1.heap.size w2.heap.size w3.heap.size w4.heap.size w5.heap.size bx W0 w2 (.slice oa n cap) (.slice ob nm cbm) (.slice (some ⟨gp, 0, none⟩) (n + 1) cp) (.slice (some ⟨gq, 0, none⟩) (nm + 1) cq) a b c d l m px py tt.wd) := HT.out tt
      generalize tt.wd = w7 at *
      clear HT H6 HSa HSc HSp HSl HB
      go_wp2_with fail
      refine (spoil_any _ _ a w7 H7.out.fa (joiL_len l m)).mono ?_
      rintro e w8 ⟨rfl, hg⟩
      have H8 : Hid (LenS W0.heap.size w1.heap.size w8 (.slice (some ⟨gp, 0, none⟩) (n + 1) cp) l ∧ LenS w1.heap.size w2.heap.size w8 (.slice (some ⟨gq, 0, none⟩) (nm + 1) cq) m ∧ OwS w4.heap.size w8 c (movG l px py) ∧ Below W0.heap.size W0 w8) := by
        obtain ⟨f1, f2, f3, f4, f5, f6, f7, f8, f9, f10, f11, f12⟩ := H7.out
        have ha : ∀ g, a.ownBlock = some g → w2.heap.size ≤ g := fun g hg => (row_lt f5 g hg).1
        refine ⟨f3.far hg fun g h => Nat.le_trans HS.out.2.2 (ha g h), f4.far hg ha, f8.far hg fun g h c => ?_, f11.grown hg f11.size fun g h => Nat.le_trans (Nat.le_trans HS.out.2.1 HS.out.2.2) (ha g h)⟩
        have h1 := f6 g c
        have h2 := (row_lt f8 g h).1
        have := HS2.out.2
        omega
      clear hg H7
      go_wp2_with fail
      refine (spoil_any _ _ c w8 H8.out.2.2.1 (movG_len HL.out.1 px py)).mono ?_
      rintro e w9 ⟨rfl, hg⟩
      have H9 : Hid (LsS w9 (.slice oa n cap) l ∧ LsS w9 (.slice ob nm cbm) m ∧ LenS W0.heap.size w1.heap.size w9 (.slice (some ⟨gp, 0, none⟩) (n + 1) cp) l ∧ LenS w1.heap.size w2.heap.size w9 (.slice (some ⟨gq, 0, none⟩) (nm + 1) cq) m ∧ Below w.heap.size w w9) := by
        obtain ⟨f1, f2, f3, f4⟩ := H8.out
        have ha : ∀ g, c.ownBlock = some g → w2.heap.size ≤ g := fun g hg => Nat.le_trans (Nat.le_trans HS2.out.1 HS2.out.2) (row_lt f3 g hg).1
        have b1 : Below W0.heap.size W0 w9 := f4.grown hg f4.size fun g h => Nat.le_trans (Nat.le_trans HS.out.2.1 HS.out.2.2) (ha g h)
        have b0 : Below w.heap.size w w9 := HB00.out.trans (b1.mono HB00.out.size)
        exact ⟨HW.out.1.2.1.below b0, HW.out.2.1.2.1.below b0, f1.far hg fun g h => Nat.le_trans HS.out.2.2 (ha g h), f2.far hg ha, b0⟩
      clear hg H8
      go_wp2_with fail
      refine (kept_any _ _ l _ _ w9 H9.out.2.2.1 H9.out.1 HL.out.1).mono ?_
      rintro e w10 ⟨rfl, hb10⟩
      have H10 : Hid (LsS w10 (.slice ob nm cbm) m ∧ LenS w1.heap.size w2.heap.size w10 (.slice (some ⟨gq, 0, none⟩) (nm + 1) cq) m ∧ Below w.heap.size w w10) := ⟨H9.out.2.1.below hb10, H9.out.2.2.2.1.below hb10, H9.out.2.2.2.2.trans (hb10.mono H9.out.2.2.2.2.size)⟩
      clear hb10 H9
      go_wp2_with fail
      refine (kept_any _ _ m _ _ w10 H10.out.2.1 H10.out.1 HL.out.2).mono ?_
      rintro e w11 ⟨rfl, hb11⟩
      have HBz : Hid (Below w.heap.size w w11) := H10.out.2.2.trans (hb11.mono H10.out.2.2.size)
      clear hb11
      go_wp2
      go_ret
      exact ⟨rfl, HBz.out⟩

end Go.Proofs.Ytbghjmkgicdnoaa
