/-
  A look, a list of rules that came in: the values written out.
-/
import Derived.Test.YtobmpjmpffnoiaaDoorSW2
import Derived.Test.YtobmpjmpffnoiaaDoorSP2
import Derived.ProofKit
import Derived.OpenShut
import Derived.Lib.SmallJoins
import Derived.Lib.LaidU8
namespace Go.Proofs.YtobmpjmpffnoiaaDoor
open Go.ChangeShapes Go.WideShapes Go.ChangeAt Go.RowKit Go.Joins

theorem own : ownKnob Tryd.prog.godebug = none := by kernel_rfl
theorem laidOut : laidOutB Tryd.prog = true := by kernel_rfl
theorem cells_c : Tryd.prog.cellsOf 31 = 4 := by kernel_rfl
theorem cells_l : Tryd.prog.cellsOf 33 = 11 := by kernel_rfl
theorem cells_ru : Tryd.prog.cellsOf 35 = 14 := by kernel_rfl
theorem cells_u8 : Tryd.prog.cellsOf 5 = 1 := by kernel_rfl
theorem cells_b : Tryd.prog.cellsOf 4 = 1 := by kernel_rfl
theorem cells_i : Tryd.prog.cellsOf 3 = 1 := by kernel_rfl
theorem cells_s : Tryd.prog.cellsOf 9 = 1 := by kernel_rfl

theorem trod_struct5 {H : Type} {enc : TypeId × Value → H} {P : Program} {w : World} {base : Nat} {spare : Nat → Bool} {held : Bool} {t : TypeId} {f0 f1 f2 f3 f4 : Field} {fuel : Nat} {cs : List Value} {x : DataW H × List MemPlace} (ht : P.underlying t = some (.struct #[f0, f1, f2, f3, f4])) (h : DataW.trod enc P w base spare held fuel t cs = some x) :
    ∃ y0 y1 y2 y3 y4 n, cs.length = P.cellsOf t ∧ DataW.trod enc P w base spare held n f0.type ((cs.drop f0.offset).take (P.cellsOf f0.type)) = some y0 ∧
      DataW.trod enc P w base spare held n f1.type ((cs.drop f1.offset).take (P.cellsOf f1.type)) = some y1 ∧ DataW.trod enc P w base spare held n f2.type ((cs.drop f2.offset).take (P.cellsOf f2.type)) = some y2 ∧
      DataW.trod enc P w base spare held n f3.type ((cs.drop f3.offset).take (P.cellsOf f3.type)) = some y3 ∧ DataW.trod enc P w base spare held n f4.type ((cs.drop f4.offset).take (P.cellsOf f4.type)) = some y4 := by
  obtain ⟨xs, n, _, rfl, hl, hlen, hf⟩ := DataW.trod_struct ht h
  match xs, hlen with
  | [y0, y1, y2, y3, y4], _ => exact ⟨y0, y1, y2, y3, y4, n, hl, by simpa using hf 0 f0 rfl, by simpa using hf 1 f1 rfl, by simpa using hf 2 f2 rfl, by simpa using hf 3 f3 rfl, by simpa using hf 4 f4 rfl⟩

theorem col_cells {H : Type} {enc : TypeId × Value → H} {W : World} {b : Nat} {sp : Nat → Bool} {held : Bool} {fuel : Nat} {c0 c1 c2 c3 : Value} {x : DataW H × List MemPlace} (h : DataW.trod enc Tryd.prog W b sp held fuel 31 [c0, c1, c2, c3] = some x) :
    ∃ r g bl a : Int, c0 = .int .u8 r ∧ c1 = .int .u8 g ∧ c2 = .int .u8 bl ∧ c3 = .int .u8 a := by
  obtain ⟨y0, y1, y2, y3, n, _, _, h0, h1, h2, h3⟩ := trod_struct4 Tryd.underlying31 h
  simp [cells_u8] at h0 h1 h2 h3
  obtain ⟨a0, e0, _, _⟩ := DataW.trod_int Tryd.underlying5 h0
  obtain ⟨a1, e1, _, _⟩ := DataW.trod_int Tryd.underlying5 h1
  obtain ⟨a2, e2, _, _⟩ := DataW.trod_int Tryd.underlying5 h2
  obtain ⟨a3, e3, _, _⟩ := DataW.trod_int Tryd.underlying5 h3
  simp at e0 e1 e2 e3
  exact ⟨a0, a1, a2, a3, e0, e1, e2, e3⟩

def cellsL (k : Lk) : List Value := [.int .u8 (k.has : Nat), .int .u8 k.r, .int .u8 k.g, .int .u8 k.b, .int .u8 k.a, .int .u8 k.r2, .int .u8 k.g2, .int .u8 k.b2, .int .u8 k.a2, .bool k.bd, .int .i64 k.pad]
def cellsR (r : Rl) : List Value := .int .u8 (r.kind : Nat) :: .string r.cls :: .int .u8 (r.state : Nat) :: cellsL r.look

theorem look_cells {H : Type} {enc : TypeId × Value → H} {W : World} {b : Nat} {sp : Nat → Bool} {held : Bool} {fuel : Nat} {cs : List Value} {x : DataW H × List MemPlace} (h : DataW.trod enc Tryd.prog W b sp held fuel 33 cs = some x) :
    ∃ k : Lk, cs = cellsL k ∧ k.has < 256 := by
  obtain ⟨y0, y1, y2, y3, y4, n, hl, h0, h1, h2, h3, h4⟩ := trod_struct5 Tryd.underlying33 h
  rw [cells_l] at hl
  match cs, hl with
  | [c0, c1, c2, c3, c4, c5, c6, c7, c8, c9, c10], _ =>
    simp [cells_u8, cells_c, cells_b, cells_i] at h0 h1 h2 h3 h4
    obtain ⟨a0, e0, _, w0⟩ := DataW.trod_int Tryd.underlying5 h0
    obtain ⟨a1, a2, a3, a4, rfl, rfl, rfl, rfl⟩ := col_cells h1
    obtain ⟨a5, a6, a7, a8, rfl, rfl, rfl, rfl⟩ := col_cells h2
    obtain ⟨a9, e9, _⟩ := DataW.trod_bool Tryd.underlying4 h3
    obtain ⟨a10, e10, _, _⟩ := DataW.trod_int Tryd.underlying3 h4
    simp at e0 e9 e10
    subst e0 e9 e10
    have hb := bounds_u8 w0
    refine ⟨⟨a0.toNat, a1, a2, a3, a4, a5, a6, a7, a8, a9, a10⟩, ?_, ?_⟩
    · simp [cellsL, Int.toNat_of_nonneg hb.1]
    · show a0.toNat < 256
      omega

theorem rule_cells {H : Type} {enc : TypeId × Value → H} {W : World} {b : Nat} {sp : Nat → Bool} {held : Bool} {fuel : Nat} {cs : List Value} {x : DataW H × List MemPlace} (h : DataW.trod enc Tryd.prog W b sp held fuel 35 cs = some x) :
    ∃ r : Rl, cs = cellsR r ∧ r.cls.size ≤ 9223372036854775807 ∧ r.wf := by
  obtain ⟨y0, y1, y2, y3, n, _, hl, h0, h1, h2, h3⟩ := trod_struct4 Tryd.underlying35 h
  rw [cells_ru] at hl
  match cs, hl with
  | [c0, c1, c2, c3, c4, c5, c6, c7, c8, c9, c10, c11, c12, c13], _ =>
    simp [cells_u8, cells_s, cells_l] at h0 h1 h2 h3
    obtain ⟨a0, e0, _, w0⟩ := DataW.trod_int Tryd.underlying5 h0
    obtain ⟨a1, e1, _, w1⟩ := DataW.trod_string Tryd.underlying9 h1
    obtain ⟨a2, e2, _, w2⟩ := DataW.trod_int Tryd.underlying5 h2
    obtain ⟨k, e3, hk⟩ := look_cells h3
    simp at e0 e1 e2
    subst e0 e1 e2
    have hb0 := bounds_u8 w0
    have hb2 := bounds_u8 w2
    refine ⟨⟨a0.toNat, a1, a2.toNat, k⟩, ?_, w1, ?_, ?_, hk⟩
    · simp [cellsR, Int.toNat_of_nonneg hb0.1, Int.toNat_of_nonneg hb2.1, e3]
    · show a0.toNat < 256
      omega
    · show a2.toNat < 256
      omega

theorem open_look {H : Type} {enc : TypeId × Value → H} {W : World} {base b : Nat} {sp : Nat → Bool} {held : Bool} {v : Value} {d : DataW H} {p : List MemPlace}
    (hv : Value.okWide Tryd.prog W .any base 33 v) (h : DataW.Trod enc Tryd.prog W b sp held 33 v d p) : ∃ k : Lk, v = (Value.agg #[.int .u8 (k.has : Nat), .int .u8 k.r, .int .u8 k.g, .int .u8 k.b, .int .u8 k.a, .int .u8 k.r2, .int .u8 k.g2, .int .u8 k.b2, .int .u8 k.a2, .bool k.bd, .int .i64 k.pad]) ∧ k.has < 256 := by
  obtain ⟨cs, rfl, hsz⟩ := okWide_struct Tryd.underlying33 hv
  obtain ⟨fuel, hf⟩ := h
  obtain ⟨k, hk, hh⟩ := look_cells hf
  refine ⟨k, ?_, hh⟩
  have : cs.toList = cellsL k := hk
  rw [show cs = cs.toList.toArray from rfl, this]
  rfl

/-- The list of rules that lie in memory. -/
theorem rules_of {W : World} {g o : Nat} : ∀ (n : Nat), (∀ i, i < n → ∃ r : Rl, RlAt W g (o + i * 14) r ∧ r.cls.size ≤ 9223372036854775807 ∧ r.wf) → ∃ rs : List Rl, rs.length = n ∧ (∀ i (h : i < rs.length), RlAt W g (o + i * 14) rs[i]) ∧ ∀ r ∈ rs, r.cls.size ≤ 9223372036854775807 ∧ r.wf
  | 0, _ => ⟨[], rfl, fun i h => absurd h (Nat.not_lt_zero i), fun r hr => by simp at hr⟩
  | n + 1, h => by
    obtain ⟨rs, hl, ha, hw⟩ := rules_of n fun i hi => h i (by omega)
    obtain ⟨r, hr, hz⟩ := h n (by omega)
    refine ⟨rs ++ [r], by simp [hl], fun i hi => ?_, fun x hx => ?_⟩
    · by_cases e : i < rs.length
      · rw [List.getElem_append_left e]; exact ha i e
      · have : i = n := by simp at hi; omega
        subst this
        subst hl
        rw [List.getElem_concat_length rfl]
        exact hr
    · rcases List.mem_append.1 hx with hx | hx
      · exact hw x hx
      · simp at hx; subst hx; exact hz

theorem open_rules {H : Type} {enc : TypeId × Value → H} {W : World} {base b : Nat} {sp : Nat → Bool} {held : Bool} {v : Value} {d : DataW H} {p : List MemPlace}
    (hv : Value.okWide Tryd.prog W .any base 23 v) (h : DataW.Trod enc Tryd.prog W b sp held 23 v d p) : ∃ rs : List Rl, Rules W v rs ∧ (∀ r ∈ rs, r.cls.size ≤ 9223372036854775807 ∧ r.wf) ∧ rs.length ≤ 9223372036854775807 := by
  obtain ⟨oa, len, cap, rfl⟩ := okWide_slice Tryd.underlying23 hv
  obtain ⟨fuel, hf⟩ := h
  rcases DataW.trod_slice Tryd.underlying23 hf with ⟨he, _⟩ | ⟨a, len', cap', el, rest, n, _, he, _, _, hlc, hcm, hel, hat, _, _⟩
  · simp [Value.cells] at he
    obtain ⟨rfl, rfl, rfl⟩ := he
    exact ⟨[], ⟨none, 0, rfl, Nat.le_refl _, fun h => by simp at h⟩, fun r hr => by simp at hr, by simp⟩
  · simp [Value.cells] at he
    obtain ⟨rfl, rfl, rfl⟩ := he
    rw [cells_ru] at hat
    obtain ⟨g, o, s⟩ := a
    have key : ∀ i, i < len → ∃ r : Rl, (∀ j, j < 14 → W.cell? ((Addr.mk g o s).add (i * 14) |>.add j) = (cellsR r)[j]?) ∧ r.cls.size ≤ 9223372036854775807 ∧ r.wf := by
      intro i hi
      have h1 := hat i hi
      obtain ⟨bb, hb⟩ : ∃ bb, el[i]? = some bb := ⟨el[i]'(by omega), List.getElem?_eq_getElem (by omega)⟩
      rw [hb] at h1
      obtain ⟨ce, hce, hte⟩ := Option.bind_eq_some_iff.1 h1
      obtain ⟨r, hr, hw⟩ := rule_cells hte
      obtain ⟨_, _, hcc⟩ := World.cells?_some hce
      exact ⟨r, fun j hj => by rw [hcc j hj, hr], hw⟩
    by_cases h0 : len = 0
    · subst h0
      exact ⟨[], ⟨_, cap, rfl, Nat.zero_le _, fun h => by simp at h⟩, fun r hr => by simp at hr, by simp⟩
    obtain rfl : s = none := by
      obtain ⟨r, hr, _⟩ := key 0 (by omega)
      have h00 := hr 0 (by omega)
      have : (Addr.add (Addr.add ⟨g, o, s⟩ (0 * 14)) 0) = ⟨g, o, s⟩ := by simp [Addr.add]
      rw [this] at h00
      exact Go.Proofs.cell_spot h00
    obtain ⟨rs, hl, ha, hw⟩ := rules_of (W := W) (g := g) (o := o) len fun i hi => by
      obtain ⟨r, hr, hz⟩ := key i hi
      have e := fun j hj => hr j hj
      simp only [Addr.add_lit] at e
      exact ⟨r, ⟨e 0 (by omega), e 1 (by omega), e 2 (by omega), e 3 (by omega), e 4 (by omega), e 5 (by omega), e 6 (by omega), e 7 (by omega), e 8 (by omega), e 9 (by omega), e 10 (by omega), e 11 (by omega), e 12 (by omega), e 13 (by omega)⟩, hz⟩
    subst hl
    have hg : g < W.heap.size := by
      have h1 := (ha 0 (by omega)).1
      rcases Nat.lt_or_ge g W.heap.size with h' | h'
      · exact h'
      · simp [World.cell?, Array.getElem?_eq_none h'] at h1
    exact ⟨rs, ⟨_, cap, rfl, hlc, fun _ => ⟨g, o, rfl, hg, ha⟩⟩, hw, by have : cap ≤ 9223372036854775807 := hcm; omega⟩

end Go.Proofs.YtobmpjmpffnoiaaDoor
