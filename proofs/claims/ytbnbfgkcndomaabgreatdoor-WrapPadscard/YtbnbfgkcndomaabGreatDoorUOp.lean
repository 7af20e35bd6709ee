/-
  A size, a rectangle, a look, a node that came in: the values written out.
-/
import Derived.Test.YtbnbfgkcndomaabGreatDoorSP
import Derived.Test.YtbnbfgkcndomaabGreatDoorW1
import Derived.Test.YtbnbfgkcndomaabGreatDoorUP
import Derived.ProofKit
import Derived.OpenShut
import Derived.Lib.SmallJoins
import Derived.Lib.LaidU8
namespace Go.Proofs.YtbnbfgkcndomaabGreatDoor
open Go.ChangeShapes Go.WideShapes Go.ChangeAt Go.RowKit Go.Joins

theorem own : ownKnob Tryz.prog.godebug = none := by kernel_rfl
theorem laidOut : laidOutB Tryz.prog = true := by kernel_rfl
theorem cells_r : Tryz.prog.cellsOf 32 = 4 := by kernel_rfl
theorem cells_p : Tryz.prog.cellsOf 25 = 2 := by kernel_rfl
theorem cells_s : Tryz.prog.cellsOf 23 = 2 := by kernel_rfl
theorem cells_i : Tryz.prog.cellsOf 3 = 1 := by kernel_rfl
theorem cells_c : Tryz.prog.cellsOf 34 = 4 := by kernel_rfl
theorem cells_l : Tryz.prog.cellsOf 36 = 11 := by kernel_rfl
theorem cells_u8 : Tryz.prog.cellsOf 5 = 1 := by kernel_rfl
theorem cells_b : Tryz.prog.cellsOf 4 = 1 := by kernel_rfl
theorem cells_t : Tryz.prog.cellsOf 9 = 1 := by kernel_rfl
theorem cells_n : Tryz.prog.cellsOf 29 = 19 := by kernel_rfl
theorem cells_w : Tryz.prog.cellsOf 26 = 1 := by kernel_rfl
theorem cells_k : Tryz.prog.cellsOf 27 = 1 := by kernel_rfl

theorem trod_struct5 {H : Type} {enc : TypeId × Value → H} {P : Program} {w : World} {base : Nat} {spare : Nat → Bool} {held : Bool} {t : TypeId} {f0 f1 f2 f3 f4 : Field} {fuel : Nat} {cs : List Value} {x : DataW H × List MemPlace} (ht : P.underlying t = some (.struct #[f0, f1, f2, f3, f4])) (h : DataW.trod enc P w base spare held fuel t cs = some x) :
    ∃ y0 y1 y2 y3 y4 n, cs.length = P.cellsOf t ∧ DataW.trod enc P w base spare held n f0.type ((cs.drop f0.offset).take (P.cellsOf f0.type)) = some y0 ∧
      DataW.trod enc P w base spare held n f1.type ((cs.drop f1.offset).take (P.cellsOf f1.type)) = some y1 ∧ DataW.trod enc P w base spare held n f2.type ((cs.drop f2.offset).take (P.cellsOf f2.type)) = some y2 ∧
      DataW.trod enc P w base spare held n f3.type ((cs.drop f3.offset).take (P.cellsOf f3.type)) = some y3 ∧ DataW.trod enc P w base spare held n f4.type ((cs.drop f4.offset).take (P.cellsOf f4.type)) = some y4 := by
  obtain ⟨xs, n, _, rfl, hl, hlen, hf⟩ := DataW.trod_struct ht h
  match xs, hlen with
  | [y0, y1, y2, y3, y4], _ => exact ⟨y0, y1, y2, y3, y4, n, hl, by simpa using hf 0 f0 rfl, by simpa using hf 1 f1 rfl, by simpa using hf 2 f2 rfl, by simpa using hf 3 f3 rfl, by simpa using hf 4 f4 rfl⟩

set_option maxRecDepth 100000 in
theorem col_cells {H : Type} {enc : TypeId × Value → H} {W : World} {b : Nat} {sp : Nat → Bool} {held : Bool} {fuel : Nat} {c0 c1 c2 c3 : Value} {x : DataW H × List MemPlace} (h : DataW.trod enc Tryz.prog W b sp held fuel 34 [c0, c1, c2, c3] = some x) :
    ∃ r g bl a : Int, c0 = .int .u8 r ∧ c1 = .int .u8 g ∧ c2 = .int .u8 bl ∧ c3 = .int .u8 a := by
  obtain ⟨y0, y1, y2, y3, n, _, _, h0, h1, h2, h3⟩ := trod_struct4 Tryz.underlying34 h
  simp [cells_u8] at h0 h1 h2 h3
  obtain ⟨a0, e0, _, _⟩ := DataW.trod_int Tryz.underlying5 h0
  obtain ⟨a1, e1, _, _⟩ := DataW.trod_int Tryz.underlying5 h1
  obtain ⟨a2, e2, _, _⟩ := DataW.trod_int Tryz.underlying5 h2
  obtain ⟨a3, e3, _, _⟩ := DataW.trod_int Tryz.underlying5 h3
  simp at e0 e1 e2 e3
  exact ⟨a0, a1, a2, a3, e0, e1, e2, e3⟩

def cellsL (k : Lk) : List Value := [.int .u8 (k.has : Nat), .int .u8 k.r, .int .u8 k.g, .int .u8 k.b, .int .u8 k.a, .int .u8 k.r2, .int .u8 k.g2, .int .u8 k.b2, .int .u8 k.a2, .bool k.bd, .int .i64 k.pad]

set_option maxRecDepth 100000 in
theorem look_cells {H : Type} {enc : TypeId × Value → H} {W : World} {b : Nat} {sp : Nat → Bool} {held : Bool} {fuel : Nat} {cs : List Value} {x : DataW H × List MemPlace} (h : DataW.trod enc Tryz.prog W b sp held fuel 36 cs = some x) :
    ∃ k : Lk, cs = cellsL k ∧ k.has < 256 := by
  obtain ⟨y0, y1, y2, y3, y4, n, hl, h0, h1, h2, h3, h4⟩ := trod_struct5 Tryz.underlying36 h
  rw [cells_l] at hl
  match cs, hl with
  | [c0, c1, c2, c3, c4, c5, c6, c7, c8, c9, c10], _ =>
    simp [cells_u8, cells_c, cells_b, cells_i] at h0 h1 h2 h3 h4
    obtain ⟨a0, e0, _, w0⟩ := DataW.trod_int Tryz.underlying5 h0
    obtain ⟨a1, a2, a3, a4, rfl, rfl, rfl, rfl⟩ := col_cells h1
    obtain ⟨a5, a6, a7, a8, rfl, rfl, rfl, rfl⟩ := col_cells h2
    obtain ⟨a9, e9, _⟩ := DataW.trod_bool Tryz.underlying4 h3
    obtain ⟨a10, e10, _, _⟩ := DataW.trod_int Tryz.underlying3 h4
    simp at e0 e9 e10
    subst e0 e9 e10
    have hb := bounds_u8 w0
    refine ⟨⟨a0.toNat, a1, a2, a3, a4, a5, a6, a7, a8, a9, a10⟩, ?_, ?_⟩
    · simp [cellsL, Int.toNat_of_nonneg hb.1]
    · show a0.toNat < 256
      omega

theorem i64_of {n : Int} (h : (Lit.int .i64 n).wf = true) : I64 n := by
  have := bounds_i64 h
  exact ⟨this.1, this.2⟩

set_option maxRecDepth 100000 in
theorem open_size {H : Type} {enc : TypeId × Value → H} {W : World} {base b : Nat} {sp : Nat → Bool} {held : Bool} {v : Value} {d : DataW H} {p : List MemPlace}
    (hv : Value.okWide Tryz.prog W .any base 23 v) (h : DataW.Trod enc Tryz.prog W b sp held 23 v d p) : ∃ x y : Int, v = .agg #[.int .i64 x, .int .i64 y] ∧ I64 x ∧ I64 y := by
  obtain ⟨c0, c1, y0, y1, m, rfl, rfl, rfl, hy0, hy1⟩ := open_agg2 Tryz.underlying23 (by kernel_rfl) cells_s hv h
  obtain ⟨a, e0, rfl, wa⟩ := DataW.trod_int Tryz.underlying3 hy0
  obtain ⟨c, e1, rfl, wc⟩ := DataW.trod_int Tryz.underlying3 hy1
  simp at e0 e1
  subst e0 e1
  exact ⟨a, c, rfl, i64_of wa, i64_of wc⟩

set_option maxRecDepth 100000 in
theorem open_rect {H : Type} {enc : TypeId × Value → H} {W : World} {base b : Nat} {sp : Nat → Bool} {held : Bool} {v : Value} {d : DataW H} {p : List MemPlace}
    (hv : Value.okWide Tryz.prog W .any base 32 v) (h : DataW.Trod enc Tryz.prog W b sp held 32 v d p) : ∃ x y n m : Int, v = .agg #[.int .i64 x, .int .i64 y, .int .i64 n, .int .i64 m] ∧ I64 x ∧ I64 y ∧ I64 n ∧ I64 m := by
  obtain ⟨cs, rfl, hsz⟩ := okWide_struct Tryz.underlying32 hv
  obtain ⟨c0, c1, c2, c3, rfl⟩ := array4 (hsz.trans cells_r)
  obtain ⟨fuel, hf⟩ := h
  obtain ⟨y0, y1, n, hx, _, h0, h1⟩ := trod_struct2 Tryz.underlying32 hf
  simp [Value.cells, cells_p, cells_s] at h0 h1
  obtain ⟨y00, y01, n0, hx0, _, h00, h01⟩ := trod_struct2 Tryz.underlying25 h0
  obtain ⟨y10, y11, n1, hx1, _, h10, h11⟩ := trod_struct2 Tryz.underlying23 h1
  simp [cells_i] at h00 h01 h10 h11
  obtain ⟨a0, e0, _, w0⟩ := DataW.trod_int Tryz.underlying3 h00
  obtain ⟨a1, e1, _, w1⟩ := DataW.trod_int Tryz.underlying3 h01
  obtain ⟨a2, e2, _, w2⟩ := DataW.trod_int Tryz.underlying3 h10
  obtain ⟨a3, e3, _, w3⟩ := DataW.trod_int Tryz.underlying3 h11
  simp at e0 e1 e2 e3
  subst e0 e1 e2 e3
  exact ⟨a0, a1, a2, a3, rfl, i64_of w0, i64_of w1, i64_of w2, i64_of w3⟩

set_option maxRecDepth 100000 in
theorem open_look {H : Type} {enc : TypeId × Value → H} {W : World} {base b : Nat} {sp : Nat → Bool} {held : Bool} {v : Value} {d : DataW H} {p : List MemPlace}
    (hv : Value.okWide Tryz.prog W .any base 36 v) (h : DataW.Trod enc Tryz.prog W b sp held 36 v d p) : ∃ k : Lk, v = (Value.agg #[.int .u8 (k.has : Nat), .int .u8 k.r, .int .u8 k.g, .int .u8 k.b, .int .u8 k.a, .int .u8 k.r2, .int .u8 k.g2, .int .u8 k.b2, .int .u8 k.a2, .bool k.bd, .int .i64 k.pad]) ∧ k.has < 256 := by
  obtain ⟨cs, rfl, hsz⟩ := okWide_struct Tryz.underlying36 hv
  obtain ⟨fuel, hf⟩ := h
  obtain ⟨k, hk, hh⟩ := look_cells hf
  refine ⟨k, ?_, hh⟩
  have : cs.toList = cellsL k := hk
  rw [show cs = cs.toList.toArray from rfl, this]
  rfl


theorem slice_cell {H : Type} {enc : TypeId × Value → H} {W : World} {b : Nat} {sp : Nat → Bool} {held : Bool} {fuel : Nat} {t el : TypeId} {c : Value} {x : DataW H × List MemPlace} (ht : Tryz.prog.underlying t = some (.slice el)) (h : DataW.trod enc Tryz.prog W b sp held fuel t [c] = some x) :
    ∃ (oa : Option Addr) (n k : Nat), c = .slice oa n k := by
  rcases DataW.trod_slice ht h with ⟨e, _⟩ | ⟨a, len, cap, _, _, _, _, e, _⟩
  · exact ⟨none, 0, 0, (List.cons.inj e).1⟩
  · exact ⟨some a, len, cap, (List.cons.inj e).1⟩

theorem two_cells {H : Type} {enc : TypeId × Value → H} {W : World} {b : Nat} {sp : Nat → Bool} {held : Bool} {fuel : Nat} {c0 c1 : Value} {x : DataW H × List MemPlace} (h : DataW.trod enc Tryz.prog W b sp held fuel 23 [c0, c1] = some x) :
    ∃ p q : Int, c0 = .int .i64 p ∧ c1 = .int .i64 q := by
  obtain ⟨y0, y1, n, _, _, h0, h1⟩ := trod_struct2 Tryz.underlying23 h
  simp [cells_i] at h0 h1
  obtain ⟨a0, e0, _, _⟩ := DataW.trod_int Tryz.underlying3 h0
  obtain ⟨a1, e1, _, _⟩ := DataW.trod_int Tryz.underlying3 h1
  simp at e0 e1
  exact ⟨a0, a1, e0, e1⟩
theorem two_cells_p {H : Type} {enc : TypeId × Value → H} {W : World} {b : Nat} {sp : Nat → Bool} {held : Bool} {fuel : Nat} {c0 c1 : Value} {x : DataW H × List MemPlace} (h : DataW.trod enc Tryz.prog W b sp held fuel 25 [c0, c1] = some x) :
    ∃ p q : Int, c0 = .int .i64 p ∧ c1 = .int .i64 q := by
  obtain ⟨y0, y1, n, _, _, h0, h1⟩ := trod_struct2 Tryz.underlying25 h
  simp [cells_i] at h0 h1
  obtain ⟨a0, e0, _, _⟩ := DataW.trod_int Tryz.underlying3 h0
  obtain ⟨a1, e1, _, _⟩ := DataW.trod_int Tryz.underlying3 h1
  simp at e0 e1
  exact ⟨a0, a1, e0, e1⟩

set_option maxRecDepth 100000 in
set_option maxHeartbeats 2000000 in
theorem open_node {H : Type} {enc : TypeId × Value → H} {W : World} {base b : Nat} {sp : Nat → Bool} {held : Bool} {v : Value} {d : DataW H} {p : List MemPlace}
    (hv : Value.okWide Tryz.prog W .any base 29 v) (h : DataW.Trod enc Tryz.prog W b sp held 29 v d p) : ∃ n : Nd, v = (Value.agg #[.int .u8 (n.kind : Nat), .string n.name, .string n.cls, .string n.text, .int .i64 n.minW, .int .i64 n.minH, .int .i64 n.maxW, .int .i64 n.maxH, .int .i64 n.grow, .int .i64 n.order, .bool n.column, .int .i64 n.columns, .int .i64 n.span, .int .i64 n.gap, .int .i64 n.offX, .int .i64 n.offY, .bool n.hidden, .slice n.wA n.wN n.wC, .slice n.kA n.kN n.kC]) ∧ n.kind < 256 := by
  obtain ⟨cs, rfl, hsz⟩ := okWide_struct Tryz.underlying29 hv
  obtain ⟨fuel, hf⟩ := h
  have hl : cs.toList.length = 19 := by rw [Array.length_toList]; exact hsz.trans cells_n
  obtain ⟨l, hcs⟩ : ∃ l, l = cs.toList := ⟨_, rfl⟩
  rw [show (Value.agg cs).cells.toList = l from hcs.symm] at hf
  rw [← hcs] at hl
  match l, hl with
  | [c0, c1, c2, c3, c4, c5, c6, c7, c8, c9, c10, c11, c12, c13, c14, c15, c16, c17, c18], _ =>
    obtain ⟨xs, n, _, _, _, hlen, hF⟩ := DataW.trod_struct Tryz.underlying29 hf
    have g : ∀ (j : Nat) (f : Field) (t : TypeId) (o : Nat), f.type = t → f.offset = o → DataW.trod enc Tryz.prog W b sp held n f.type ((([c0, c1, c2, c3, c4, c5, c6, c7, c8, c9, c10, c11, c12, c13, c14, c15, c16, c17, c18] : List Value).drop f.offset).take (Tryz.prog.cellsOf f.type)) = xs[j]? → DataW.trod enc Tryz.prog W b sp held n t ((([c0, c1, c2, c3, c4, c5, c6, c7, c8, c9, c10, c11, c12, c13, c14, c15, c16, c17, c18] : List Value).drop o).take (Tryz.prog.cellsOf t)) = xs[j]? := by
      intro j f t o e1 e2 hh
      subst e1 e2
      exact hh
    have get : ∀ j, j < 16 → ∃ y, xs[j]? = some y := fun j hj => ⟨xs[j]'(by rw [hlen]; exact hj), List.getElem?_eq_getElem _⟩
    obtain ⟨y0, z0⟩ := get 0 (by decide)
    have h0 := g 0 _ 5 0 rfl rfl (hF 0 _ rfl)
    rw [z0, cells_u8] at h0
    obtain ⟨y1, z1⟩ := get 1 (by decide)
    have h1 := g 1 _ 9 1 rfl rfl (hF 1 _ rfl)
    rw [z1, cells_t] at h1
    obtain ⟨y2, z2⟩ := get 2 (by decide)
    have h2 := g 2 _ 9 2 rfl rfl (hF 2 _ rfl)
    rw [z2, cells_t] at h2
    obtain ⟨y3, z3⟩ := get 3 (by decide)
    have h3 := g 3 _ 9 3 rfl rfl (hF 3 _ rfl)
    rw [z3, cells_t] at h3
    obtain ⟨y4, z4⟩ := get 4 (by decide)
    have h4 := g 4 _ 23 4 rfl rfl (hF 4 _ rfl)
    rw [z4, cells_s] at h4
    obtain ⟨y5, z5⟩ := get 5 (by decide)
    have h5 := g 5 _ 23 6 rfl rfl (hF 5 _ rfl)
    rw [z5, cells_s] at h5
    obtain ⟨y6, z6⟩ := get 6 (by decide)
    have h6 := g 6 _ 3 8 rfl rfl (hF 6 _ rfl)
    rw [z6, cells_i] at h6
    obtain ⟨y7, z7⟩ := get 7 (by decide)
    have h7 := g 7 _ 3 9 rfl rfl (hF 7 _ rfl)
    rw [z7, cells_i] at h7
    obtain ⟨y8, z8⟩ := get 8 (by decide)
    have h8 := g 8 _ 4 10 rfl rfl (hF 8 _ rfl)
    rw [z8, cells_b] at h8
    obtain ⟨y9, z9⟩ := get 9 (by decide)
    have h9 := g 9 _ 3 11 rfl rfl (hF 9 _ rfl)
    rw [z9, cells_i] at h9
    obtain ⟨y10, z10⟩ := get 10 (by decide)
    have h10 := g 10 _ 3 12 rfl rfl (hF 10 _ rfl)
    rw [z10, cells_i] at h10
    obtain ⟨y11, z11⟩ := get 11 (by decide)
    have h11 := g 11 _ 3 13 rfl rfl (hF 11 _ rfl)
    rw [z11, cells_i] at h11
    obtain ⟨y12, z12⟩ := get 12 (by decide)
    have h12 := g 12 _ 25 14 rfl rfl (hF 12 _ rfl)
    rw [z12, cells_p] at h12
    obtain ⟨y13, z13⟩ := get 13 (by decide)
    have h13 := g 13 _ 4 16 rfl rfl (hF 13 _ rfl)
    rw [z13, cells_b] at h13
    obtain ⟨y14, z14⟩ := get 14 (by decide)
    have h14 := g 14 _ 26 17 rfl rfl (hF 14 _ rfl)
    rw [z14, cells_w] at h14
    obtain ⟨y15, z15⟩ := get 15 (by decide)
    have h15 := g 15 _ 27 18 rfl rfl (hF 15 _ rfl)
    rw [z15, cells_k] at h15
    obtain ⟨a0, e0, _, w0⟩ := DataW.trod_int Tryz.underlying5 h0
    obtain ⟨a1, e1, _⟩ := DataW.trod_string Tryz.underlying9 h1
    obtain ⟨a2, e2, _⟩ := DataW.trod_string Tryz.underlying9 h2
    obtain ⟨a3, e3, _⟩ := DataW.trod_string Tryz.underlying9 h3
    obtain ⟨a4, a5, e4, e5⟩ := two_cells h4
    obtain ⟨a6, a7, e6, e7⟩ := two_cells h5
    obtain ⟨a8, e8, _⟩ := DataW.trod_int Tryz.underlying3 h6
    obtain ⟨a9, e9, _⟩ := DataW.trod_int Tryz.underlying3 h7
    obtain ⟨a10, e10, _⟩ := DataW.trod_bool Tryz.underlying4 h8
    obtain ⟨a11, e11, _⟩ := DataW.trod_int Tryz.underlying3 h9
    obtain ⟨a12, e12, _⟩ := DataW.trod_int Tryz.underlying3 h10
    obtain ⟨a13, e13, _⟩ := DataW.trod_int Tryz.underlying3 h11
    obtain ⟨a14, a15, e14, e15⟩ := two_cells_p h12
    obtain ⟨a16, e16, _⟩ := DataW.trod_bool Tryz.underlying4 h13
    obtain ⟨p17, q17, r17, e17⟩ := slice_cell Tryz.underlying26 h14
    obtain ⟨p18, q18, r18, e18⟩ := slice_cell Tryz.underlying27 h15
    simp only [List.drop_succ_cons, List.drop_zero, List.take_succ_cons, List.take_zero, List.cons.injEq, and_true] at e0 e1 e2 e3 e8 e9 e10 e11 e12 e13 e16
    have hb := bounds_u8 w0
    refine ⟨⟨a0.toNat, a1, a2, a3, a4, a5, a6, a7, a8, a9, a10, a11, a12, a13, a14, a15, a16, p17, q17, r17, p18, q18, r18⟩, ?_, ?_⟩
    · rw [show cs = cs.toList.toArray from rfl, ← hcs]
      subst e0 e1 e2 e3 e4 e5 e6 e7 e8 e9 e10 e11 e12 e13 e14 e15 e16 e17 e18
      simp [Int.toNat_of_nonneg hb.1]
    · show a0.toNat < 256
      omega

theorem trodAll_five {H : Type} {enc : TypeId × Value → H} {P : Program} {w : World} {base : Nat} {spare : Nat → Bool} {held : Bool} {t0 t1 t2 t3 t4 : TypeId} {args : Array Value} {ds : List (DataW H)} {ps : List MemPlace} (h : DataW.TrodAll enc P w base spare held [t0, t1, t2, t3, t4] args.toList ds ps) :
    ∃ v0 v1 v2 v3 v4 d0 d1 d2 d3 d4 p0 p1 p2 p3 p4, args = #[v0, v1, v2, v3, v4] ∧ ds = [d0, d1, d2, d3, d4] ∧ ps = p0 ++ p1 ++ p2 ++ p3 ++ p4 ∧ DataW.Trod enc P w base spare held t0 v0 d0 p0 ∧ DataW.Trod enc P w base spare held t1 v1 d1 p1 ∧ DataW.Trod enc P w base spare held t2 v2 d2 p2 ∧ DataW.Trod enc P w base spare held t3 v3 d3 p3 ∧ DataW.Trod enc P w base spare held t4 v4 d4 p4 := by
  obtain ⟨v0, vs0, d0, ds0, p0, q0, hargs, rfl, rfl, h0, r0⟩ := trodAll_cons h
  obtain ⟨v1, vs1, d1, ds1, p1, q1, rfl, rfl, rfl, h1, r1⟩ := trodAll_cons r0
  obtain ⟨v2, vs2, d2, ds2, p2, q2, rfl, rfl, rfl, h2, r2⟩ := trodAll_cons r1
  obtain ⟨v3, vs3, d3, ds3, p3, q3, rfl, rfl, rfl, h3, r3⟩ := trodAll_cons r2
  obtain ⟨v4, vs4, d4, ds4, p4, q4, rfl, rfl, rfl, h4, r4⟩ := trodAll_cons r3
  obtain ⟨rfl, rfl, rfl⟩ := trodAll_nil r4
  exact ⟨v0, v1, v2, v3, v4, d0, d1, d2, d3, d4, p0, p1, p2, p3, p4, by cases args; simp_all, rfl, by simp, h0, h1, h2, h3, h4⟩

end Go.Proofs.YtbnbfgkcndomaabGreatDoor
