/-
  Lists of sizes and of numbers that came in, written out; how many they are at the most.
-/
import Derived.Test.YthnhcphkpffkfaaGreatYZ
import Derived.ProofKit
import Derived.OpenShut
import Derived.Deep.Strs
import Derived.Lib.SmallJoins
import Derived.Lib.LaidU8
namespace Go.Proofs.YthnhcphkpffkfaaGreat
open Go.ChangeShapes Go.WideShapes Go.ChangeAt Go.RowKit Go.Joins

theorem own : ownKnob Tryz.prog.godebug = none := by kernel_rfl
theorem laidOut : laidOutB Tryz.prog = true := by kernel_rfl
theorem cells_s : Tryz.prog.cellsOf 27 = 2 := by kernel_rfl
theorem cells_r : Tryz.prog.cellsOf 29 = 4 := by kernel_rfl
theorem cells_p : Tryz.prog.cellsOf 25 = 2 := by kernel_rfl
theorem cells_i : Tryz.prog.cellsOf 3 = 1 := by kernel_rfl
theorem i64_of {n : Int} (h : (Lit.int .i64 n).wf = true) : K64 n := by
  have := bounds_i64 h
  exact ⟨this.1, this.2⟩
theorem bulk_one {H : Type} (d : DataW H) : 1 ≤ Rows.uptoBulk d := by
  cases d with
  | lit l => cases l <;> simp [Rows.uptoBulk]
  | nil => simp [Rows.uptoBulk]
  | ptr d => simp [Rows.uptoBulk]
  | slice elems spare => simp [Rows.uptoBulk]
  | agg parts => simp [Rows.uptoBulk]
  | iface t d => simp [Rows.uptoBulk]
  | map entries => simp [Rows.uptoBulk]
  | held h => simp [Rows.uptoBulk]
theorem bulk_len {H : Type} (l : List (DataW H)) : l.length ≤ Rows.uptoBulkAll l := by
  induction l with
  | nil => simp [Rows.uptoBulkAll]
  | cons x r ih => have := bulk_one x; simp only [Rows.uptoBulkAll, List.length_cons]; omega
theorem bulk_slice {H : Type} (elems spare : List (DataW H)) : elems.length ≤ Rows.uptoBulk (.slice elems spare) := by
  have h1 := bulk_len elems
  simp only [Rows.uptoBulk]
  omega

set_option maxRecDepth 100000 in
theorem size_cells {H : Type} {enc : TypeId × Value → H} {W : World} {b : Nat} {sp : Nat → Bool} {held : Bool} {fuel : Nat} {cs : List Value} {x : DataW H × List MemPlace} (h : DataW.trod enc Tryz.prog W b sp held fuel 27 cs = some x) :
    ∃ r : Sz, cs = [.int .i64 r.w, .int .i64 r.h] := by
  obtain ⟨y0, y1, n, _, hl, h0, h1⟩ := trod_struct2 Tryz.underlying27 h
  rw [cells_s] at hl
  match cs, hl with
  | [c0, c1], _ =>
    simp [cells_i] at h0 h1
    obtain ⟨a0, e0, _, w0⟩ := DataW.trod_int Tryz.underlying3 h0
    obtain ⟨a1, e1, _, w1⟩ := DataW.trod_int Tryz.underlying3 h1
    simp at e0 e1
    subst e0 e1
    exact ⟨⟨a0, a1⟩, rfl⟩
theorem sizes_of {W : World} {g o : Nat} : ∀ (n : Nat), (∀ i, i < n → ∃ r : Sz, ∀ j, j < 2 → W.cell? ⟨g, o + i * 2 + j, none⟩ = some (.int .i64 ((fZ r).getD j 0))) → ∃ rs : List Sz, rs.length = n ∧ ∀ i (h : i < rs.length) j, j < 2 → W.cell? ⟨g, o + i * 2 + j, none⟩ = some (.int .i64 ((fZ rs[i]).getD j 0))
  | 0, _ => ⟨[], rfl, fun i h => absurd h (Nat.not_lt_zero i)⟩
  | n + 1, h => by
    obtain ⟨rs, hl, ha⟩ := sizes_of n fun i hi => h i (by omega)
    obtain ⟨r, hr⟩ := h n (by omega)
    refine ⟨rs ++ [r], by simp [hl], fun i hi => ?_⟩
    by_cases e : i < rs.length
    · rw [List.getElem_append_left e]; exact ha i e
    · have : i = n := by simp at hi; omega
      subst this
      subst hl
      rw [List.getElem_concat_length rfl]
      exact hr
theorem ints_of {W : World} {g o : Nat} : ∀ (n : Nat), (∀ i, i < n → ∃ r : Int, W.cell? ⟨g, o + i, none⟩ = some (.int .i64 r) ∧ K64 r) → ∃ rs : List Int, rs.length = n ∧ (∀ i (h : i < rs.length), W.cell? ⟨g, o + i, none⟩ = some (.int .i64 rs[i])) ∧ ∀ r ∈ rs, K64 r
  | 0, _ => ⟨[], rfl, fun i h => absurd h (Nat.not_lt_zero i), fun r hr => by simp at hr⟩
  | n + 1, h => by
    obtain ⟨rs, hl, ha, hw⟩ := ints_of n fun i hi => h i (by omega)
    obtain ⟨r, hr, hz⟩ := h n (by omega)
    refine ⟨rs ++ [r], by simp [hl], fun i hi => ?_, fun x hx => ?_⟩
    · by_cases e : i < rs.length
      · rw [List.getElem_append_left e]; exact ha i e
      · have : i = n := by simp at hi; omega
        subst this
        subst hl
        rw [List.getElem_concat_length rfl]
        exact hr
    · rcases List.mem_append.1 hx with hx | hx
      · exact hw x hx
      · simp at hx; subst hx; exact hz
theorem cell_ltW {W : World} {g o : Nat} {u : Value} (h : W.cell? ⟨g, o, none⟩ = some u) : g < W.heap.size := lt_of_cellK h

set_option maxRecDepth 100000 in
theorem open_sizes {H : Type} {enc : TypeId × Value → H} {W : World} {base b : Nat} {sp : Nat → Bool} {held : Bool} {v : Value} {d : DataW H} {p : List MemPlace}
    (hv : Value.okWide Tryz.prog W .any base 23 v) (h : DataW.Trod enc Tryz.prog W b sp held 23 v d p) : ∃ L : List Sz, KS 2 fZ W v L ∧ NoNil v ∧ L.length ≤ 9223372036854775807 ∧ L.length ≤ Rows.uptoBulk d := by
  obtain ⟨oa, len, cap, rfl⟩ := okWide_slice Tryz.underlying23 hv
  obtain ⟨fuel, hf⟩ := h
  rcases DataW.trod_slice Tryz.underlying23 hf with ⟨he, _⟩ | ⟨a, len', cap', el, rest, n, _, he, hx, _, hlc, hcm, hel, hat, _, _⟩
  · simp [Value.cells] at he
    obtain ⟨rfl, rfl, rfl⟩ := he
    exact ⟨[], ⟨none, 0, rfl, Nat.le_refl _, fun h => by simp at h⟩, fun c hc => by injection hc with _ _ h; exact h.symm, by simp, by simp⟩
  · simp [Value.cells] at he
    obtain ⟨rfl, rfl, rfl⟩ := he
    have hbk : len ≤ Rows.uptoBulk d := by
      injection hx with hx _
      rw [hx]
      have := bulk_slice (el.map (·.1)) (rest.map (·.1))
      rw [List.length_map, hel] at this
      exact this
    have hnn : NoNil (.slice (some a) len cap) := fun c hc => by injection hc with h1 _ _; cases h1
    rw [cells_s] at hat
    obtain ⟨g, o, s⟩ := a
    have key : ∀ i, i < len → ∃ r : Sz, ∀ j, j < 2 → W.cell? ((Addr.mk g o s).add (i * 2) |>.add j) = ([.int .i64 r.w, .int .i64 r.h] : List Value)[j]? := by
      intro i hi
      have h1 := hat i hi
      obtain ⟨bb, hb⟩ : ∃ bb, el[i]? = some bb := ⟨el[i]'(by omega), List.getElem?_eq_getElem (by omega)⟩
      rw [hb] at h1
      obtain ⟨ce, hce, hte⟩ := Option.bind_eq_some_iff.1 h1
      obtain ⟨r, hr⟩ := size_cells hte
      obtain ⟨_, _, hcc⟩ := World.cells?_some hce
      exact ⟨r, fun j hj => by rw [hcc j hj, hr]⟩
    by_cases h0 : len = 0
    · subst h0
      exact ⟨[], ⟨_, cap, rfl, Nat.zero_le _, fun h => by simp at h⟩, hnn, by simp, by simp⟩
    obtain rfl : s = none := by
      obtain ⟨r, hr⟩ := key 0 (by omega)
      have h00 := hr 0 (by omega)
      have : (Addr.add (Addr.add ⟨g, o, s⟩ (0 * 2)) 0) = ⟨g, o, s⟩ := by simp [Addr.add]
      rw [this] at h00
      exact Go.Proofs.cell_spot h00
    obtain ⟨rs, hl, ha⟩ := sizes_of (W := W) (g := g) (o := o) len fun i hi => by
      obtain ⟨r, hr⟩ := key i hi
      have e := fun j hj => hr j hj
      simp only [Addr.add_lit] at e
      refine ⟨r, fun j hj => ?_⟩
      match j, hj with
      | 0, _ => exact e 0 (by omega)
      | 1, _ => exact e 1 (by omega)
    subst hl
    have hg : g < W.heap.size := cell_ltW (ha 0 (by omega) 0 (by omega))
    exact ⟨rs, ⟨_, cap, rfl, hlc, fun _ => ⟨g, o, rfl, hg, ha⟩⟩, hnn, by have : cap ≤ 9223372036854775807 := hcm; omega, hbk⟩

set_option maxRecDepth 100000 in
theorem open_numbers {H : Type} {enc : TypeId × Value → H} {W : World} {base b : Nat} {sp : Nat → Bool} {held : Bool} {v : Value} {d : DataW H} {p : List MemPlace}
    (hv : Value.okWide Tryz.prog W .any base 22 v) (h : DataW.Trod enc Tryz.prog W b sp held 22 v d p) : ∃ xs : List Int, IS W v xs ∧ NoNil v ∧ xs.length ≤ 9223372036854775807 ∧ xs.length ≤ Rows.uptoBulk d ∧ ∀ x ∈ xs, K64 x := by
  obtain ⟨oa, len, cap, rfl⟩ := okWide_slice Tryz.underlying22 hv
  obtain ⟨fuel, hf⟩ := h
  rcases DataW.trod_slice Tryz.underlying22 hf with ⟨he, _⟩ | ⟨a, len', cap', el, rest, n, _, he, hx, _, hlc, hcm, hel, hat, _, _⟩
  · simp [Value.cells] at he
    obtain ⟨rfl, rfl, rfl⟩ := he
    exact ⟨[], ⟨none, 0, rfl, Nat.le_refl _, fun h => by simp at h⟩, fun c hc => by injection hc with _ _ h; exact h.symm, by simp, by simp, by simp⟩
  · simp [Value.cells] at he
    obtain ⟨rfl, rfl, rfl⟩ := he
    have hbk : len ≤ Rows.uptoBulk d := by
      injection hx with hx _
      rw [hx]
      have := bulk_slice (el.map (·.1)) (rest.map (·.1))
      rw [List.length_map, hel] at this
      exact this
    have hnn : NoNil (.slice (some a) len cap) := fun c hc => by injection hc with h1 _ _; cases h1
    rw [cells_i] at hat
    obtain ⟨g, o, s⟩ := a
    have key : ∀ i, i < len → ∃ r : Int, W.cell? ((Addr.mk g o s).add (i * 1) |>.add 0) = some (.int .i64 r) ∧ K64 r := by
      intro i hi
      have h1 := hat i hi
      obtain ⟨bb, hb⟩ : ∃ bb, el[i]? = some bb := ⟨el[i]'(by omega), List.getElem?_eq_getElem (by omega)⟩
      rw [hb] at h1
      obtain ⟨ce, hce, hte⟩ := Option.bind_eq_some_iff.1 h1
      obtain ⟨r, hr, _, hw⟩ := DataW.trod_int Tryz.underlying3 hte
      obtain ⟨_, _, hcc⟩ := World.cells?_some hce
      exact ⟨r, by rw [hcc 0 (by omega), hr]; rfl, i64_of hw⟩
    by_cases h0 : len = 0
    · subst h0
      exact ⟨[], ⟨_, cap, rfl, Nat.zero_le _, fun h => by simp at h⟩, hnn, by simp, by simp, by simp⟩
    obtain rfl : s = none := by
      obtain ⟨r, hr, _⟩ := key 0 (by omega)
      have : (Addr.add (Addr.add ⟨g, o, s⟩ (0 * 1)) 0) = ⟨g, o, s⟩ := by simp [Addr.add]
      rw [this] at hr
      exact Go.Proofs.cell_spot hr
    obtain ⟨rs, hl, ha, hw⟩ := ints_of (W := W) (g := g) (o := o) len fun i hi => by
      obtain ⟨r, hr, hw⟩ := key i hi
      simp only [Addr.add_lit, Nat.mul_one, Nat.add_zero] at hr
      exact ⟨r, hr, hw⟩
    subst hl
    have hg : g < W.heap.size := by have := ha 0 (by omega); exact cell_ltW this
    exact ⟨rs, ⟨_, cap, rfl, hlc, fun _ => ⟨g, o, rfl, hg, ha⟩⟩, hnn, by have : cap ≤ 9223372036854775807 := hcm; omega, hbk, hw⟩

theorem i64_ofR {n : Int} (h : (Lit.int .i64 n).wf = true) : I64 n := by
  have := bounds_i64 h
  exact ⟨this.1, this.2⟩
set_option maxRecDepth 100000 in
theorem open_rect {H : Type} {enc : TypeId × Value → H} {W : World} {base b : Nat} {sp : Nat → Bool} {held : Bool} {v : Value} {d : DataW H} {p : List MemPlace}
    (hv : Value.okWide Tryz.prog W .any base 29 v) (h : DataW.Trod enc Tryz.prog W b sp held 29 v d p) : ∃ x y n m : Int, v = .agg #[.int .i64 x, .int .i64 y, .int .i64 n, .int .i64 m] ∧ I64 x ∧ I64 y ∧ I64 n ∧ I64 m := by
  obtain ⟨cs, rfl, hsz⟩ := okWide_struct Tryz.underlying29 hv
  obtain ⟨c0, c1, c2, c3, rfl⟩ := array4 (hsz.trans cells_r)
  obtain ⟨fuel, hf⟩ := h
  obtain ⟨y0, y1, n, hx, _, h0, h1⟩ := trod_struct2 Tryz.underlying29 hf
  simp [Value.cells, cells_p, cells_s] at h0 h1
  obtain ⟨y00, y01, n0, hx0, _, h00, h01⟩ := trod_struct2 Tryz.underlying25 h0
  obtain ⟨y10, y11, n1, hx1, _, h10, h11⟩ := trod_struct2 Tryz.underlying27 h1
  simp [cells_i] at h00 h01 h10 h11
  obtain ⟨a0, e0, _, w0⟩ := DataW.trod_int Tryz.underlying3 h00
  obtain ⟨a1, e1, _, w1⟩ := DataW.trod_int Tryz.underlying3 h01
  obtain ⟨a2, e2, _, w2⟩ := DataW.trod_int Tryz.underlying3 h10
  obtain ⟨a3, e3, _, w3⟩ := DataW.trod_int Tryz.underlying3 h11
  simp at e0 e1 e2 e3
  subst e0 e1 e2 e3
  exact ⟨a0, a1, a2, a3, rfl, i64_ofR w0, i64_ofR w1, i64_ofR w2, i64_ofR w3⟩


end Go.Proofs.YthnhcphkpffkfaaGreat
