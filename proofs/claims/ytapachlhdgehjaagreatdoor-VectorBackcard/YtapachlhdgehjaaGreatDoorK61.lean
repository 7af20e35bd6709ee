/-
  Texts of this claim, one behind the other: what each is about stands ahead of it.
-/
import Derived.Test.YtapachlhdgehjaaGreatDoorK43
import Derived.Test.YtapachlhdgehjaaGreatDoorK33
import Derived.Test.YtapachlhdgehjaaGreatDoorK16
import Derived.LaidHandle
import Derived.LaidLaws
import Derived.Stop.LaidErr
import Derived.ChangeMade
import Derived.RowKitTokens
import Derived.Lay
import Derived.Deep.DeepLaidRun
import Derived.Test.YtapachlhdgehjaaGreatDoorCards
import Derived.Test.YtapachlhdgehjaaGreatDoorTie
import Derived.Test.YtapachlhdgehjaaGreatDoorK28
import Derived.Test.YtapachlhdgehjaaGreatDoorK44
import Derived.ProofKit
import Derived.OpenShut
import Derived.Deep.DeepHandedRow
import Derived.LaidOnce
import Derived.SevenTiedAt
/-
  A colour that came in, written out; what the listed variables give: the library's numbers, its errors, the type of errors, the tables of runes, the runes of frames.
-/
namespace Go.Proofs.YtapachlhdgehjaaGreatDoor
open Go.ChangeShapes Go.WideShapes Go.ChangeAt Go.RowKit Go.Joins Go.Lib

set_option maxRecDepth 100000 in
theorem open_colour {H : Type} {enc : TypeId × Value → H} {W : World} {base b : Nat} {sp : Nat → Bool} {held : Bool} {v : Value} {d : DataW H} {p : List MemPlace}
    (hv : Value.okWide Tryz.prog W .any base 38 v) (h : DataW.Trod enc Tryz.prog W b sp held 38 v d p) : ∃ c : Co, v = (Value.agg #[.int .u8 c.r, .int .u8 c.g, .int .u8 c.b, .int .u8 c.a]) ∧ c.ok := by
  obtain ⟨c0, c1, c2, c3, y0, y1, y2, y3, m, rfl, rfl, rfl, h0, h1, h2, h3⟩ := open_agg4 Tryz.underlying38 (by kernel_rfl) cells_c hv h
  obtain ⟨a0, e0, _, w0⟩ := DataW.trod_int Tryz.underlying5 h0
  obtain ⟨a1, e1, _, w1⟩ := DataW.trod_int Tryz.underlying5 h1
  obtain ⟨a2, e2, _, w2⟩ := DataW.trod_int Tryz.underlying5 h2
  obtain ⟨a3, e3, _, w3⟩ := DataW.trod_int Tryz.underlying5 h3
  simp at e0 e1 e2 e3
  subst e0 e1 e2 e3
  have b0 := bounds_u8 w0
  have b1 := bounds_u8 w1
  have b2 := bounds_u8 w2
  have b3 := bounds_u8 w3
  refine ⟨⟨a0, a1, a2, a3⟩, rfl, ?_⟩
  unfold Co.ok By
  dsimp only
  omega

def spanData (xs : List (Int × Int)) : DataW Unit := .slice (xs.map fun x => .agg ([x.1, x.2].map fun z => .lit (.int .i32 z))) []
theorem marks_eq : Rows.laid_casement_runes_marks (H := Unit) = spanData marksL := by kernel_rfl
theorem wides_eq : Rows.laid_casement_runes_wides (H := Unit) = spanData widesL := by kernel_rfl
theorem c_span : Tryz.prog.cellsOf 260 = 2 := by kernel_rfl
theorem c_i32 : Tryz.prog.cellsOf 21 = 1 := by kernel_rfl

theorem spans_of_reads {name : String} {g : Nat} (hn : Tryz.prog.globalNamed name = some g) (hy : (Tryz.prog.globals[g]?).map (·.type) = some 258) {xs : List (Int × Int)} (h0 : xs ≠ []) {w : World} (h : VarReads Tryz.prog w name (spanData xs)) : Spans w g xs := by
  obtain ⟨g', t, cs, fuel, p, hg, hty, hvar, hd⟩ := h
  obtain rfl := Option.some.inj (hn.symm.trans hg)
  obtain rfl := Option.some.inj (hy.symm.trans hty)
  rcases DataW.trod_slice Tryz.underlying258 hd with ⟨_, hx⟩ | ⟨a, len, cap, el, rs, m, rfl, hcs, hx, _, hlc, _, hel, helem, _, _⟩
  · cases hx
  · have eE : el.map (·.1) = xs.map fun x => (.agg ([x.1, x.2].map fun z => .lit (.int .i32 z)) : DataW Unit) := by
      have := congrArg Prod.fst hx
      simp only [spanData, DataW.slice.injEq] at this
      exact this.1.symm
    have hlen : len = xs.length := by
      have := congrArg List.length eE
      simp at this
      omega
    subst hlen
    have hrange : ∀ i (hi : i < xs.length), ∀ j, j < 2 → w.cell? ((a.add (i * 2)).add j) = ([.int .i32 xs[i].1, .int .i32 xs[i].2] : List Value)[j]? := by
      intro i hi j hj
      have h1 := helem i hi
      rw [c_span] at h1
      obtain ⟨b, hb⟩ : ∃ b, el[i]? = some b := ⟨el[i]'(by omega), List.getElem?_eq_getElem (by omega)⟩
      rw [hb] at h1
      obtain ⟨ce, hce, hte⟩ := Option.bind_eq_some_iff.1 h1
      have hb1 : b.1 = .agg ([xs[i].1, xs[i].2].map fun z => .lit (.int .i32 z)) := by
        have := congrArg (·[i]?) eE
        simpa [hb, hi] using this
      have hcs2 := ints_of_struct (p := b.2) Tryz.underlying260 (fun q f hq => by
        match q, hq with
        | 0, hq => simp at hq; subst hq; exact ⟨Tryz.underlying21, rfl, c_i32⟩
        | 1, hq => simp at hq; subst hq; exact ⟨Tryz.underlying21, rfl, c_i32⟩
        | q + 2, hq => simp at hq) (by rw [c_span]; rfl) (by rw [← hb1]; exact hte)
      obtain ⟨_, _, hcc⟩ := World.cells?_some hce
      rw [hcc j hj, hcs2]
      rfl
    obtain ⟨R, o, sR⟩ := a
    have hpos : 0 < xs.length := by
      cases xs with
      | nil => exact absurd rfl h0
      | cons _ _ => simp
    obtain rfl : sR = none := by
      have h00 := hrange 0 hpos 0 (by omega)
      have : (Addr.add (Addr.add ⟨R, o, sR⟩ (0 * 2)) 0) = ⟨R, o, sR⟩ := by simp [Addr.add]
      rw [this] at h00
      exact cell_spot h00
    refine ⟨R, o, cap, ?_, hlc, fun i hi => ?_⟩
    · rw [World.var?_cell hg hvar 0, ← Array.getElem?_toList, hcs]
      rfl
    · have k0 := hrange i hi 0 (by omega)
      have k1 := hrange i hi 1 (by omega)
      rw [Addr.add_lit, Addr.add_lit] at k0 k1
      exact ⟨by simpa using k0, by simpa using k1⟩

set_option maxRecDepth 100000 in
theorem c_box4 : Tryz.prog.cellsOf 207 = 4 := by kernel_rfl
set_option maxRecDepth 100000 in
theorem box_of {W : World} (h : VarReads Tryz.prog W "casement/cells.box" (Rows.laid_casement_cells_box (H := Unit))) : ∀ i j : Nat, i < 4 → j < 4 → W.cell? ⟨1, i * 4 + j, none⟩ = some (.int .i32 (([0, 9474, 9474, 9474, 9472, 9484, 9488, 9474, 9472, 9492, 9496, 9474, 9472, 9472, 9472, 9633] : List Int).getD (i * 4 + j) 0)) := by
  obtain ⟨g', t, cs, fuel, p, hg, hty, hvar, hd⟩ := h
  obtain rfl := Option.some.inj ((show Tryz.prog.globalNamed "casement/cells.box" = some 1 by kernel_rfl).symm.trans hg)
  obtain rfl := Option.some.inj ((show (Tryz.prog.globals[1]?).map (·.type) = some 208 by kernel_rfl).symm.trans hty)
  obtain ⟨xs, m, rfl, hx, hl, hn, hf⟩ := DataW.trod_array Tryz.underlying208 hd
  match xs, hn with
  | [x0, x1, x2, x3], _ =>
    obtain ⟨x0, p0⟩ := x0
    obtain ⟨x1, p1⟩ := x1
    obtain ⟨x2, p2⟩ := x2
    obtain ⟨x3, p3⟩ := x3
    have hx1 := congrArg Prod.fst hx
    simp only [Rows.laid_casement_cells_box, List.map_cons, List.map_nil, DataW.agg.injEq, List.cons.injEq, and_true] at hx1
    obtain ⟨rfl, rfl, rfl, rfl⟩ := hx1
    have f0 := hf 0 (by omega)
    have f1 := hf 1 (by omega)
    have f2 := hf 2 (by omega)
    have f3 := hf 3 (by omega)
    rw [c_box4] at f0 f1 f2 f3
    have k0 := cells_of_tab (zs := [0, 9474, 9474, 9474]) Tryz.underlying207 Tryz.underlying21 c_i32 c_box4 f0
    have k1 := cells_of_tab (zs := [9472, 9484, 9488, 9474]) Tryz.underlying207 Tryz.underlying21 c_i32 c_box4 f1
    have k2 := cells_of_tab (zs := [9472, 9492, 9496, 9474]) Tryz.underlying207 Tryz.underlying21 c_i32 c_box4 f2
    have k3 := cells_of_tab (zs := [9472, 9472, 9472, 9633]) Tryz.underlying207 Tryz.underlying21 c_i32 c_box4 f3
    intro i j hi hj
    rw [World.var?_cell hg hvar (i * 4 + j), ← Array.getElem?_toList]
    have e : cs.toList[i * 4 + j]? = ((cs.toList.drop (i * 4)).take 4)[j]? := by simp [hj, List.getElem?_drop]
    rw [e]
    rcases (show i = 0 ∨ i = 1 ∨ i = 2 ∨ i = 3 by omega) with rfl | rfl | rfl | rfl
    · rw [k0]
      rcases (show j = 0 ∨ j = 1 ∨ j = 2 ∨ j = 3 by omega) with rfl | rfl | rfl | rfl <;> rfl
    · rw [k1]
      rcases (show j = 0 ∨ j = 1 ∨ j = 2 ∨ j = 3 by omega) with rfl | rfl | rfl | rfl <;> rfl
    · rw [k2]
      rcases (show j = 0 ∨ j = 1 ∨ j = 2 ∨ j = 3 by omega) with rfl | rfl | rfl | rfl <;> rfl
    · rw [k3]
      rcases (show j = 0 ∨ j = 1 ∨ j = 2 ∨ j = 3 by omega) with rfl | rfl | rfl | rfl <;> rfl

theorem cut_rt : (Tryz.prog.cutTypes.find? (·.1 == "internal/reflectlite.rtype")).map (·.2) = some 225 := by kernel_rfl
theorem one_row : ((List.range 324).filter fun t => Tryz.prog.rowNamed t [101, 114, 114, 111, 114]) = [80] := by kernel_rfl
theorem n_types : Tryz.prog.types.size = 324 := by kernel_rfl
theorem et_name : Tryz.prog.globalNamed "errors.errorType" = some 0 := by kernel_rfl
theorem et_hand : typeHandle Tryz.prog 80 = .pointer (some ⟨12, 80, none⟩) := by kernel_rfl
theorem es_star : "*" ++ "errors.errorString" = "*errors.errorString" := by decide
theorem es_row (u : TypeId) (h : Tryz.prog.typeName? 3 u = some "*errors.errorString") : u = 293 :=
  typeName_ptr_named (nm := "errors.errorString") (by rw [es_star]; kernel_rfl) (by kernel_rfl) (by decide) u (by rw [es_star]; exact h)
theorem es_cells : Tryz.prog.cellsOf 295 = 1 := by kernel_rfl
theorem s_cells : Tryz.prog.cellsOf 9 = 1 := by kernel_rfl
theorem er_iface {W : World} {n : String} {g : Nat} {a : Addr} (hg : Tryz.prog.globalNamed n = some g) (h : W.var? Tryz.prog n = some #[.iface 293 (.pointer (some a))]) : ∃ ev, W.cell? ⟨g, 0, none⟩ = some ev ∧ (ev = .nilIface ∨ ∃ te pe, ev = .iface te pe) :=
  ⟨_, by simpa using World.var?_cell hg h 0, .inr ⟨_, _, rfl⟩⟩

set_option maxRecDepth 100000 in
theorem env_of {W : World} (h : laidMetH Tryz.prog Rows.vectorBackRow.laid W) (hsh : W.ShapedOpen Tryz.prog) : (EnR W.heap.size W ∧ EtI W) ∧ ∀ W', Below W.heap.size W W' → TbD W' := by
  obtain ⟨hd, hh⟩ := (show laidMet Tryz.prog [("math/bits.deBruijn32tab", Rows.laid_math_bits_deBruijn32tab), ("math/bits.deBruijn64tab", Rows.laid_math_bits_deBruijn64tab), ("internal/strconv.uint64pow10", Rows.laid_internal_strconv_uint64pow10), ("strconv.ErrRange", Rows.laid_strconv_ErrRange), ("strconv.ErrSyntax", Rows.laid_strconv_ErrSyntax), ("casement/runes.marks", Rows.laid_casement_runes_marks), ("casement/runes.wides", Rows.laid_casement_runes_wides), ("casement/cells.box", Rows.laid_casement_cells_box)] W ∧ handlesMet Tryz.prog [("errors.errorType", Rows.laid_errors_errorType)] W from h)
  refine ⟨⟨?_, ?_⟩, ?_⟩
  · have hp : PwI W := pw_of (.tail _ (.tail _ (.head _))) hd
    obtain ⟨a1, s1, v1, _, _, _⟩ := laid_sentinel hd.tail.tail.tail (g := 9) (ti := 80) (by kernel_rfl) (by kernel_rfl) Tryz.underlying80 es_row Tryz.underlying293 Tryz.underlying295 rfl rfl Tryz.underlying9 es_cells s_cells
    obtain ⟨a2, s2, v2, _, _, _⟩ := laid_sentinel hd.tail.tail.tail.tail (g := 8) (ti := 80) (by kernel_rfl) (by kernel_rfl) Tryz.underlying80 es_row Tryz.underlying293 Tryz.underlying295 rfl rfl Tryz.underlying9 es_cells s_cells
    have r1 := er_iface (g := 9) (by kernel_rfl) v1
    have r2 := er_iface (g := 8) (by kernel_rfl) v2
    obtain ⟨m, hm⟩ := Tryz.laysM145.s1_3 W hsh
    have lt : ∀ {g : Nat} {v : Value}, W.cell? ⟨g, 0, none⟩ = some v → g < W.heap.size := fun {g v} hc => by
      rcases Nat.lt_or_ge g W.heap.size with h1 | h1
      · exact h1
      · simp [World.cell?, Array.getElem?_eq_none h1] at hc
    intro w' hb
    refine ⟨hp.below hb, ?_, ?_, m, ?_⟩
    · obtain ⟨ev, hc, hk⟩ := r2
      exact ⟨ev, by rw [hb.cell (p := ⟨8, 0, none⟩) (lt hc)]; exact hc, hk⟩
    · obtain ⟨ev, hc, hk⟩ := r1
      exact ⟨ev, by rw [hb.cell (p := ⟨9, 0, none⟩) (lt hc)]; exact hc, hk⟩
    · rw [hb.cell (p := ⟨6, 0, none⟩) (lt hm)]; exact hm
  · obtain ⟨name, u, ty, e1, e2, e3, e4, e5⟩ := hh _ (List.mem_singleton.2 rfl)
    have en : name = [101, 114, 114, 111, 114] := (Option.some.inj e1).symm
    subst en
    obtain rfl := Option.some.inj (cut_rt.symm.trans e2)
    have hm : ty ∈ (List.range 324).filter fun t => Tryz.prog.rowNamed t [101, 114, 114, 111, 114] := List.mem_filter.2 ⟨List.mem_range.2 (by rw [← n_types]; exact e3), e4⟩
    rw [one_row] at hm
    obtain rfl := List.mem_singleton.1 hm
    rw [et_hand] at e5
    unfold EtI
    simpa using World.var?_cell et_name e5 0
  · have r3 : VarReads Tryz.prog W "casement/runes.marks" (spanData marksL) := marks_eq ▸ Lib.laidMet.reads hd (.tail _ (.tail _ (.tail _ (.tail _ (.tail _ (.head _))))))
    have r4 : VarReads Tryz.prog W "casement/runes.wides" (spanData widesL) := wides_eq ▸ Lib.laidMet.reads hd (.tail _ (.tail _ (.tail _ (.tail _ (.tail _ (.tail _ (.head _)))))))
    have r5 : VarReads Tryz.prog W "casement/cells.box" (Rows.laid_casement_cells_box (H := Unit)) := Lib.laidMet.reads hd (.tail _ (.tail _ (.tail _ (.tail _ (.tail _ (.tail _ (.tail _ (.head _))))))))
    have T : Tabs W := ⟨spans_of_reads (by kernel_rfl) (by kernel_rfl) (by decide) r3, spans_of_reads (by kernel_rfl) (by kernel_rfl) (by decide) r4⟩
    have hbx := box_of r5
    obtain ⟨m, hm⟩ := Tryz.laysM145.s1_3 W hsh
    have lt : ∀ {g o : Nat} {v : Value}, W.cell? ⟨g, o, none⟩ = some v → g < W.heap.size := fun {g o v} hc => by
      rcases Nat.lt_or_ge g W.heap.size with h1 | h1
      · exact h1
      · simp [World.cell?, Array.getElem?_eq_none h1] at hc
    intro W' hb
    refine ⟨T.below hb, ⟨m, ?_⟩, fun i j hi hj => ?_⟩
    · rw [hb.cell (p := ⟨6, 0, none⟩) (lt hm)]; exact hm
    · rw [hb.cell (p := ⟨1, i * 4 + j, none⟩) (lt (hbx i j hi hj))]; exact hbx i j hi hj

noncomputable def laidV (os : Os) : World :=
  let w0 := World.laidAll Tryz.prog os [("math/bits.deBruijn32tab", Rows.laid_math_bits_deBruijn32tab), ("math/bits.deBruijn64tab", Rows.laid_math_bits_deBruijn64tab), ("internal/strconv.uint64pow10", Rows.laid_internal_strconv_uint64pow10), ("strconv.ErrRange", Rows.laid_strconv_ErrRange), ("strconv.ErrSyntax", Rows.laid_strconv_ErrSyntax), ("casement/runes.marks", Rows.laid_casement_runes_marks), ("casement/runes.wides", Rows.laid_casement_runes_wides), ("casement/cells.box", Rows.laid_casement_cells_box)]
  { w0 with heap := w0.heap.modify 0 fun
      | .cells _ t frozen => .cells #[.iface 225 (.agg #[.pointer (some ⟨12, 80, none⟩)])] t frozen
      | o => o }
set_option maxRecDepth 100000 in
theorem laidV_os (os : Os) : (laidV os).os = os := by
  unfold laidV
  exact World.laidAll_os Tryz.prog os _
set_option maxRecDepth 100000 in
theorem laidV_met (os : Os) (args : Array Value) : laidMetH Tryz.prog Rows.vectorBackRow.laid ((laidV os).forCall (fun _ _ => 0) ⟨#[], args, []⟩).memory :=
  laidMetH_of_parts (laidMet_of_run3 8 (by kernel_rfl) (by kernel_rfl) (by kernel_rfl)) (by kernel_rfl)

end Go.Proofs.YtapachlhdgehjaaGreatDoor

/-
  The statement VectorBack holds: of any strokes, size and colour; no condition.
-/
namespace Go.Proofs.YtapachlhdgehjaaGreatDoor
open Go.ChangeShapes Go.WideShapes Go.ChangeAt Go.RowKit
open Go.ChangeMaps (open_string shut_string)

set_option maxRecDepth 100000 in
theorem vback_reads (os : Os) {H : Type} (enc : TypeId × Value → H) : ∃ places, DataW.whole enc Tryz.prog ((laidV os).forCall (fun _ _ => 0) ⟨#[], #[.slice none 0 0, .agg #[.int .i64 0, .int .i64 0], .agg #[.int .u8 0, .int .u8 0, .int .u8 0, .int .u8 0]], []⟩).memory Tryz.f4.params.toList Rows.vectorBackSpec.vars false #[Value.slice none 0 0, .agg #[.int .i64 0, .int .i64 0], .agg #[.int .u8 0, .int .u8 0, .int .u8 0, .int .u8 0]].toList 8 = some ([.nil, .agg [.lit (.int .i64 0), .lit (.int .i64 0)], .agg [.lit (.int .u8 0), .lit (.int .u8 0), .lit (.int .u8 0), .lit (.int .u8 0)]], [], places) :=
  ⟨[], by kernel_rfl⟩

set_option maxRecDepth 100000 in
theorem vback_lifted (os : Os) (started : os.Started) (H : Type) (enc : TypeId × Value → H) (F : Stop.Interp) :
    ReturnsInHanded {} Tryz.checked os 4 .any ((OpenSpec.ofChange Rows.vectorBackSpec).preRow enc Tryz.prog Tryz.f4 Rows.vectorBackRow.domain false Rows.vectorBackRow.laid) (((OpenSpec.ofChange Rows.vectorBackSpec).at F).post enc Tryz.prog Tryz.f4 false true false false) := by
  obtain ⟨places, hx⟩ := vback_reads os enc
  have hok : Input.okWideB Tryz.prog ((laidV os).forCall (fun _ _ => 0) ⟨#[], #[.slice none 0 0, .agg #[.int .i64 0, .int .i64 0], .agg #[.int .u8 0, .int .u8 0, .int .u8 0, .int .u8 0]], []⟩) 4 ⟨#[], #[.slice none 0 0, .agg #[.int .i64 0, .int .i64 0], .agg #[.int .u8 0, .int .u8 0, .int .u8 0, .int .u8 0]], []⟩ = true := by kernel_rfl
  have hL : laidMetH Tryz.prog Rows.vectorBackRow.laid ((laidV os).forCall (fun _ _ => 0) ⟨#[], #[.slice none 0 0, .agg #[.int .i64 0, .int .i64 0], .agg #[.int .u8 0, .int .u8 0, .int .u8 0, .int .u8 0]], []⟩).memory := laidV_met os _
  refine returnsInHanded_of_row (C := Tryz.checked) (s := OpenSpec.ofChange Rows.vectorBackSpec) own_w started (by kernel_rfl) Tryz.func4
    ⟨laidV os, fun _ _ => 0, ⟨#[], #[.slice none 0 0, .agg #[.int .i64 0, .int .i64 0], .agg #[.int .u8 0, .int .u8 0, .int .u8 0, .int .u8 0]], []⟩, laidV_os os, World.shaped_of_ZipB (by kernel_rfl) (by kernel_rfl), (Input.okWide_of_okWideB (base := 0) hok).1, (Input.okWide_of_okWideB hok).2,
      OpenSpec.preRow_of_cond 8 hx (by kernel_rfl) (fun k hk => by cases hk) (by kernel_rfl) hL, by
        simp only [Assume.holds]
        exact ⟨by simp, by simp, fun _ => Modest.zero, by simp, by simp⟩⟩ ?_
  intro W base args ds gs before hval0 hW _ hcond _ hLaid hsh _
  have hval : ∀ (j : Nat) t v, Tryz.f4.params[j]? = some t → args[j]? = some v → Value.okWide Tryz.prog W .any base t v := hval0
  have hW' := hW
  obtain ⟨p, q, hA0, hV, rfl, _, _⟩ := hW
  have hA : DataW.TrodAll enc Tryz.prog W 0 (fun _ => true) true Tryz.f4.params.toList args.toList ds p := hA0
  rw [Tryz.params4] at hA hval
  obtain ⟨v0, v1, v2, d0, d1, d2, p0, p1, p2, rfl, rfl, rfl, h0, h1, h2⟩ := trodAll_three hA
  obtain ⟨rfl, rfl⟩ := trodVars_none hV
  have k0 := h0
  have lt0 : ∀ x ∈ p0, x.block < W.heap.size := by obtain ⟨m, hm⟩ := k0; exact DataW.trod_lt m _ _ _ hm
  obtain ⟨x0, f0, g0, e0⟩ := open_strokes (hval 0 27 v0 rfl rfl) h0
  have k1 := h1
  have lt1 : ∀ x ∈ p1, x.block < W.heap.size := by obtain ⟨m, hm⟩ := k1; exact DataW.trod_lt m _ _ _ hm
  obtain ⟨a1, b1, rfl, i1, j1⟩ := open_siz (hval 1 23 v1 rfl rfl) h1
  have k2 := h2
  have lt2 : ∀ x ∈ p2, x.block < W.heap.size := by obtain ⟨m, hm⟩ := k2; exact DataW.trod_lt m _ _ _ hm
  obtain ⟨x2, rfl, f2⟩ := open_colour (hval 2 38 v2 rfl rfl) h2
  obtain ⟨⟨en1, en2⟩, en3⟩ := env_of (show laidMetH Tryz.prog Rows.vectorBackRow.laid W from hLaid) hsh
  refine (vback_walk frame_any x0 _ a1 b1 x2 W f0 g0 i1 j1 f2 ⟨en1, en2⟩ en3).mono fun e W' ⟨he, hb⟩ => ?_
  subst he
  exact ⟨_, rfl, _, _, _, [], _, [], hW', trodAll_mk1 (shut_bool Tryz.underlying4 _), (trodAll_cons_mk (Below.trod laid_w (by kernel_rfl) (of_decide_eq_true (by kernel_rfl)) k0 hb lt0) (trodAll_cons_mk (Below.trod laid_w (by kernel_rfl) (of_decide_eq_true (by kernel_rfl)) k1 hb lt1) (trodAll_cons_mk (Below.trod laid_w (by kernel_rfl) (of_decide_eq_true (by kernel_rfl)) k2 hb lt2) trodAll_mk0))), rfl, hb.frame _, fun h => by cases h⟩

theorem vback_row : Rows.VectorBackSaid :=
  OpenClaim.holds_of_cond 4 Tryz.f4 rfl rfl rfl rfl rfl rfl rfl ⟨rfl, rfl, rfl, rfl, rfl⟩ rfl rfl rfl rfl rfl (by kernel_rfl) Tryz.func4 (by kernel_rfl)
    (of_decide_eq_true (by kernel_rfl)) (by unfold Func.isWrapper; first | (rw [if_pos (by decide +kernel)]; kernel_rfl) | (rw [if_neg (by decide +kernel)]; exact ⟨rfl, rfl⟩))
    (fun os started H enc _ F => by rw [OpenClaim.pre_eq_preRow]; exact vback_lifted os started H enc F)

theorem vback_bare (f : FuncId) (fn : Func) (hf : Tryz.pinned.checked.prog.funcNamed "casement/casementlaw16.VectorBack" = some f) (hfn : Tryz.pinned.checked.prog.funcs[f]? = some fn) :
    true = Tryz.pinned.checked.prog.looks [] ∧ ∀ (j : Nat) t, fn.params[j]? = some t → Tryz.pinned.checked.prog.wantsStandIn t = false := by
  obtain rfl : f = 4 := Option.some.inj ((show Tryz.prog.funcNamed "casement/casementlaw16.VectorBack" = some 4 by kernel_rfl).symm.trans hf) |>.symm
  obtain rfl : fn = Tryz.f4 := (Option.some.inj (Tryz.func4.symm.trans hfn)).symm
  refine ⟨by kernel_rfl, fun j t ht => ?_⟩
  rw [Tryz.params4] at ht
  have hm : t ∈ [27, 23, 38] := by simpa using Array.mem_of_getElem? ht
  have hall : ([27, 23, 38].all fun u => !Tryz.prog.wantsStandIn u) = true := by kernel_rfl
  exact (show Tryz.prog.wantsStandIn t = false by simpa using List.all_eq_true.1 hall t hm)

theorem vback_card : Rows.VectorBackCardSaid :=
  Claim7.holds_tied_plain_at .later [] _ _ _ _ vback_row (fun _ h => by cases h) (by kernel_rfl) (fun _ h => by cases h) vectorBack_row_tie rfl ⟨rfl, rfl⟩ (by kernel_rfl) rfl vback_bare (by kernel_rfl)

#print axioms vback_card
end Go.Proofs.YtapachlhdgehjaaGreatDoor
