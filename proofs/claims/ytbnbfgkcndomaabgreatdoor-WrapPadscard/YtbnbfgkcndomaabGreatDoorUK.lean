/-
  The part of a node: built, without parts to hold.
-/
import Derived.Test.YtbnbfgkcndomaabGreatDoorUJ
import Derived.Test.YtbnbfgkcndomaabGreatDoorReg3
namespace Go.Proofs.YtbnbfgkcndomaabGreatDoor
open Go.RowKit Go.Shelf

theorem clone_nil (w : World) :
    Calls Tryz.prog 100 #[.slice none 0 0] w fun e w' => e = .returned (.slice none 0 0) ∧ w' = w := by
  have qT : ∀ (w : World) (a : Option Addr) (n c n' c' : Nat), (binOp .eql 40 (.slice a n c) (.slice none n' c')).run Tryz.prog w = .ok (.bool a.isNone) w := fun w a n c n' c' => Lib.run_eql_slice_nil w _ _ a n c n' c' Tryz.underlying40
  go_enter Tryz.func100, Tryz.ntmps100
  go_wp2
  go_ret
  exact ⟨rfl, rfl⟩

/-- The part of a node. -/
def ptOf (n : Nd) (pa : Option Addr) (pn pc : Nat) : Pt := ⟨tyOf n.kind, n.kind, n.name, askW n, askH n, n.maxW, n.maxH, wrtT n, n.order, n.offX, n.offY, pa, pn, pc⟩

/-- What built has laid when it comes to the kinds. -/
structure Laid (w : World) (n : Nd) (W : World) (h m p f : Nat) : Prop where
  node : Blk W w.heap.size (#[.int .u8 (n.kind : Nat), .string n.name, .string n.cls, .string n.text, .int .i64 n.minW, .int .i64 n.minH, .int .i64 n.maxW, .int .i64 n.maxH, .int .i64 n.grow, .int .i64 n.order, .bool n.column, .int .i64 n.columns, .int .i64 n.span, .int .i64 n.gap, .int .i64 n.offX, .int .i64 n.offY, .bool n.hidden, .slice n.wA n.wN n.wC, .slice n.kA n.kN n.kC]) 29
  head : Blk W h #[.int .u8 (n.kind : Nat), .string n.name] 193
  mea : Blk W m #[.int .i64 (askW n), .int .i64 (askH n), .int .i64 n.maxW, .int .i64 n.maxH] 195
  pai : Blk W p #[.string (wrtT n)] 199
  foc : Blk W f #[.int .i64 n.order] 201
  below : Below w.heap.size w W

theorem pt_new (W : World) (n : Nd) (b : Nat) (vs : Array Value) (t : TypeId) (h : Blk W b vs t) (hv : (ptOf n none 0 0).cells = vs) : PtIn W b (ptOf n none 0 0) := ⟨t, by rw [hv]; exact h⟩

set_option maxHeartbeats 4000000 in
theorem built_nil (n : Nd) (w : World) (T : Tbs w) (hk : kindB n.kind = true) (hs : n.text.size ≤ 1048576) :
    Calls Tryz.prog 63 #[(Value.agg #[.int .u8 (n.kind : Nat), .string n.name, .string n.cls, .string n.text, .int .i64 n.minW, .int .i64 n.minH, .int .i64 n.maxW, .int .i64 n.maxH, .int .i64 n.grow, .int .i64 n.order, .bool n.column, .int .i64 n.columns, .int .i64 n.span, .int .i64 n.gap, .int .i64 n.offX, .int .i64 n.offY, .bool n.hidden, .slice n.wA n.wN n.wC, .slice n.kA n.kN n.kC]), .slice none 0 0] w fun e w' => ∃ b, e = .returned (.iface (tyOf n.kind).id (.pointer (some ⟨b, 0, none⟩))) ∧ PtIn w' b (ptOf n none 0 0) ∧ w.heap.size ≤ b ∧ Below w.heap.size w w' := by
  have HM : Hid (∀ W, Tbs W → Calls Tryz.prog 111 #[(Value.agg #[.int .u8 (n.kind : Nat), .string n.name, .string n.cls, .string n.text, .int .i64 n.minW, .int .i64 n.minH, .int .i64 n.maxW, .int .i64 n.maxH, .int .i64 n.grow, .int .i64 n.order, .bool n.column, .int .i64 n.columns, .int .i64 n.span, .int .i64 n.gap, .int .i64 n.offX, .int .i64 n.offY, .bool n.hidden, .slice n.wA n.wN n.wC, .slice n.kA n.kN n.kC])] W fun e w' => e = .returned (.agg #[.int .i64 (askW n), .int .i64 (askH n), .int .i64 n.maxW, .int .i64 n.maxH]) ∧ Below W.heap.size W w') := fun W h => measuringOf_any n W h hk hs
  have HW : Hid (∀ W, Calls Tryz.prog 112 #[(Value.agg #[.int .u8 (n.kind : Nat), .string n.name, .string n.cls, .string n.text, .int .i64 n.minW, .int .i64 n.minH, .int .i64 n.maxW, .int .i64 n.maxH, .int .i64 n.grow, .int .i64 n.order, .bool n.column, .int .i64 n.columns, .int .i64 n.span, .int .i64 n.gap, .int .i64 n.offX, .int .i64 n.offY, .bool n.hidden, .slice n.wA n.wN n.wC, .slice n.kA n.kN n.kC])] W fun e w' => e = .returned (.string (wrtT n)) ∧ w' = W.alloc (.cells (#[.int .u8 (n.kind : Nat), .string n.name, .string n.cls, .string n.text, .int .i64 n.minW, .int .i64 n.minH, .int .i64 n.maxW, .int .i64 n.maxH, .int .i64 n.grow, .int .i64 n.order, .bool n.column, .int .i64 n.columns, .int .i64 n.span, .int .i64 n.gap, .int .i64 n.offX, .int .i64 n.offY, .bool n.hidden, .slice n.wA n.wN n.wC, .slice n.kA n.kN n.kC]) 29)) := fun W => written_any n W hk hs
  have HT : Hid (Tbs w) := T
  have HK : Hid (kindB n.kind = true) := hk
  have HV : Hid (∀ {W : World} {b : Nat} {t : TypeId}, Blk W b (#[.int .u8 (n.kind : Nat), .string n.name, .string n.cls, .string n.text, .int .i64 n.minW, .int .i64 n.minH, .int .i64 n.maxW, .int .i64 n.maxH, .int .i64 n.grow, .int .i64 n.order, .bool n.column, .int .i64 n.columns, .int .i64 n.span, .int .i64 n.gap, .int .i64 n.offX, .int .i64 n.offY, .bool n.hidden, .slice n.wA n.wN n.wC, .slice n.kA n.kN n.kC]) t → (Instr.loadAt 29 (.pointer (some ⟨b, 0, none⟩))).run Tryz.prog W = .ok (Value.agg #[.int .u8 (n.kind : Nat), .string n.name, .string n.cls, .string n.text, .int .i64 n.minW, .int .i64 n.minH, .int .i64 n.maxW, .int .i64 n.maxH, .int .i64 n.grow, .int .i64 n.order, .bool n.column, .int .i64 n.columns, .int .i64 n.span, .int .i64 n.gap, .int .i64 n.offX, .int .i64 n.offY, .bool n.hidden, .slice n.wA n.wN n.wC, .slice n.kA n.kN n.kC]) W) := load_node
  clear T hk hs
  have A0 : Hid (Blk ((w.alloc (.cells (#[.int .u8 (n.kind : Nat), .string n.name, .string n.cls, .string n.text, .int .i64 n.minW, .int .i64 n.minH, .int .i64 n.maxW, .int .i64 n.maxH, .int .i64 n.grow, .int .i64 n.order, .bool n.column, .int .i64 n.columns, .int .i64 n.span, .int .i64 n.gap, .int .i64 n.offX, .int .i64 n.offY, .bool n.hidden, .slice n.wA n.wN n.wC, .slice n.kA n.kN n.kC]) 29)).alloc (.cells #[.int .u8 (n.kind : Nat), .string n.name] 193)) w.heap.size (#[.int .u8 (n.kind : Nat), .string n.name, .string n.cls, .string n.text, .int .i64 n.minW, .int .i64 n.minH, .int .i64 n.maxW, .int .i64 n.maxH, .int .i64 n.grow, .int .i64 n.order, .bool n.column, .int .i64 n.columns, .int .i64 n.span, .int .i64 n.gap, .int .i64 n.offX, .int .i64 n.offY, .bool n.hidden, .slice n.wA n.wN n.wC, .slice n.kA n.kN n.kC]) 29) := (Blk.new _ _ _).alloc _
  have H0 := Blk.new (w.alloc (.cells (#[.int .u8 (n.kind : Nat), .string n.name, .string n.cls, .string n.text, .int .i64 n.minW, .int .i64 n.minH, .int .i64 n.maxW, .int .i64 n.maxH, .int .i64 n.grow, .int .i64 n.order, .bool n.column, .int .i64 n.columns, .int .i64 n.span, .int .i64 n.gap, .int .i64 n.offX, .int .i64 n.offY, .bool n.hidden, .slice n.wA n.wN n.wC, .slice n.kA n.kN n.kC]) 29)) #[.int .u8 (n.kind : Nat), .string n.name] 193
  rw [World.size_alloc] at H0
  have B0 : Hid (Blk ((w.alloc (.cells (#[.int .u8 (n.kind : Nat), .string n.name, .string n.cls, .string n.text, .int .i64 n.minW, .int .i64 n.minH, .int .i64 n.maxW, .int .i64 n.maxH, .int .i64 n.grow, .int .i64 n.order, .bool n.column, .int .i64 n.columns, .int .i64 n.span, .int .i64 n.gap, .int .i64 n.offX, .int .i64 n.offY, .bool n.hidden, .slice n.wA n.wN n.wC, .slice n.kA n.kN n.kC]) 29)).alloc (.cells #[.int .u8 (n.kind : Nat), .string n.name] 193)) (w.heap.size + 1) #[.int .u8 (n.kind : Nat), .string n.name] 193 ∧ Below w.heap.size w ((w.alloc (.cells (#[.int .u8 (n.kind : Nat), .string n.name, .string n.cls, .string n.text, .int .i64 n.minW, .int .i64 n.minH, .int .i64 n.maxW, .int .i64 n.maxH, .int .i64 n.grow, .int .i64 n.order, .bool n.column, .int .i64 n.columns, .int .i64 n.span, .int .i64 n.gap, .int .i64 n.offX, .int .i64 n.offY, .bool n.hidden, .slice n.wA n.wN n.wC, .slice n.kA n.kN n.kC]) 29)).alloc (.cells #[.int .u8 (n.kind : Nat), .string n.name] 193))) := ⟨H0, ((Below.refl _ w).alloc (Nat.le_refl _) _).alloc (by simp) _⟩
  clear H0
  go_enter Tryz.func63, Tryz.ntmps63
  go_upto_region 2 with fail
  generalize (w.alloc (.cells (#[.int .u8 (n.kind : Nat), .string n.name, .string n.cls, .string n.text, .int .i64 n.minW, .int .i64 n.minH, .int .i64 n.maxW, .int .i64 n.maxH, .int .i64 n.grow, .int .i64 n.order, .bool n.column, .int .i64 n.columns, .int .i64 n.span, .int .i64 n.gap, .int .i64 n.offX, .int .i64 n.offY, .bool n.hidden, .slice n.wA n.wN n.wC, .slice n.kA n.kN n.kC]) 29)).alloc (.cells #[.int .u8 (n.kind : Nat), .string n.name] 193) = W at *
  have hl := load_node A0.out
  refine Go.wp_region_lit ?_
  refine wpList_load rfl _ _ rfl _ _ rfl hl ?_
  clear hl
  have hM := HM.out W (HT.out.below B0.out.2)
  generalize (Value.agg #[.int .u8 (n.kind : Nat), .string n.name, .string n.cls, .string n.text, .int .i64 n.minW, .int .i64 n.minH, .int .i64 n.maxW, .int .i64 n.maxH, .int .i64 n.grow, .int .i64 n.order, .bool n.column, .int .i64 n.columns, .int .i64 n.span, .int .i64 n.gap, .int .i64 n.offX, .int .i64 n.offY, .bool n.hidden, .slice n.wA n.wN n.wC, .slice n.kA n.kN n.kC]) = nv at *
  go_wp2_with fail
  refine hM.mono ?_
  rintro e w1 ⟨rfl, hb⟩
  have A1 : Hid (Blk w1 w.heap.size (#[.int .u8 (n.kind : Nat), .string n.name, .string n.cls, .string n.text, .int .i64 n.minW, .int .i64 n.minH, .int .i64 n.maxW, .int .i64 n.maxH, .int .i64 n.grow, .int .i64 n.order, .bool n.column, .int .i64 n.columns, .int .i64 n.span, .int .i64 n.gap, .int .i64 n.offX, .int .i64 n.offY, .bool n.hidden, .slice n.wA n.wN n.wC, .slice n.kA n.kN n.kC]) 29) := A0.out.below hb
  have B1 : Hid (Blk w1 (w.heap.size + 1) #[.int .u8 (n.kind : Nat), .string n.name] 193 ∧ Below w.heap.size w w1) := ⟨B0.out.1.below hb, B0.out.2.trans (hb.mono B0.out.2.size)⟩
  clear hb A0 B0 hM
  have hl2 := HV.out (A1.out.alloc (.cells #[.int .i64 (askW n), .int .i64 (askH n), .int .i64 n.maxW, .int .i64 n.maxH] 195))
  go_upto_region 3 with fail
  refine Go.wp_region_lit ?_
  refine wpList_load rfl _ _ rfl _ _ rfl hl2 ?_
  clear hl2
  go_wp2_with fail
  refine (HW.out _).mono ?_
  rintro e w2 ⟨rfl, rfl⟩
  have c9 : w1.cell? ⟨w.heap.size, 9, none⟩ = some (.int .i64 n.order) := A1.out.cell 9
  have c0 : w1.cell? ⟨w.heap.size, 0, none⟩ = some (.int .u8 (n.kind : Nat)) := A1.out.cell 0
  have s1 : w.heap.size < w1.heap.size := A1.out.lt
  have s2 : w.heap.size < w1.heap.size + 1 := by omega
  have s3 : w.heap.size < w1.heap.size + 1 + 1 := by omega
  have s4 : w.heap.size < w1.heap.size + 1 + 1 + 1 := by omega
  go_upto_region 6 with fail
  clear c9 c0 s2 s3 s4
  have LL : Laid w n ((((w1.alloc (.cells #[.int .i64 (askW n), .int .i64 (askH n), .int .i64 n.maxW, .int .i64 n.maxH] 195)).alloc (.cells (#[.int .u8 (n.kind : Nat), .string n.name, .string n.cls, .string n.text, .int .i64 n.minW, .int .i64 n.minH, .int .i64 n.maxW, .int .i64 n.maxH, .int .i64 n.grow, .int .i64 n.order, .bool n.column, .int .i64 n.columns, .int .i64 n.span, .int .i64 n.gap, .int .i64 n.offX, .int .i64 n.offY, .bool n.hidden, .slice n.wA n.wN n.wC, .slice n.kA n.kN n.kC]) 29)).alloc (.cells #[.string (wrtT n)] 199)).alloc (.cells #[.int .i64 n.order] 201)) (w.heap.size + 1) w1.heap.size (w1.heap.size + 1 + 1) (w1.heap.size + 1 + 1 + 1) := by
    have P1 := Blk.new ((w1.alloc (.cells #[.int .i64 (askW n), .int .i64 (askH n), .int .i64 n.maxW, .int .i64 n.maxH] 195)).alloc (.cells (#[.int .u8 (n.kind : Nat), .string n.name, .string n.cls, .string n.text, .int .i64 n.minW, .int .i64 n.minH, .int .i64 n.maxW, .int .i64 n.maxH, .int .i64 n.grow, .int .i64 n.order, .bool n.column, .int .i64 n.columns, .int .i64 n.span, .int .i64 n.gap, .int .i64 n.offX, .int .i64 n.offY, .bool n.hidden, .slice n.wA n.wN n.wC, .slice n.kA n.kN n.kC]) 29)) #[.string (wrtT n)] 199
    have P2 := Blk.new (((w1.alloc (.cells #[.int .i64 (askW n), .int .i64 (askH n), .int .i64 n.maxW, .int .i64 n.maxH] 195)).alloc (.cells (#[.int .u8 (n.kind : Nat), .string n.name, .string n.cls, .string n.text, .int .i64 n.minW, .int .i64 n.minH, .int .i64 n.maxW, .int .i64 n.maxH, .int .i64 n.grow, .int .i64 n.order, .bool n.column, .int .i64 n.columns, .int .i64 n.span, .int .i64 n.gap, .int .i64 n.offX, .int .i64 n.offY, .bool n.hidden, .slice n.wA n.wN n.wC, .slice n.kA n.kN n.kC]) 29)).alloc (.cells #[.string (wrtT n)] 199)) #[.int .i64 n.order] 201
    simp only [World.size_alloc] at P1 P2
    have Z := B1.out.2.size
    exact ⟨(((A1.out.alloc _).alloc _).alloc _).alloc _, (((B1.out.1.alloc _).alloc _).alloc _).alloc _, (((Blk.new _ _ _).alloc _).alloc _).alloc _, P1.alloc _, P2, (((B1.out.2.alloc (by omega) _).alloc (by simp; omega) _).alloc (by simp; omega) _).alloc (by simp; omega) _⟩
  have s0 : w.heap.size ≤ w1.heap.size := Nat.le_of_lt s1
  generalize (((w1.alloc (.cells #[.int .i64 (askW n), .int .i64 (askH n), .int .i64 n.maxW, .int .i64 n.maxH] 195)).alloc (.cells (#[.int .u8 (n.kind : Nat), .string n.name, .string n.cls, .string n.text, .int .i64 n.minW, .int .i64 n.minH, .int .i64 n.maxW, .int .i64 n.maxH, .int .i64 n.grow, .int .i64 n.order, .bool n.column, .int .i64 n.columns, .int .i64 n.span, .int .i64 n.gap, .int .i64 n.offX, .int .i64 n.offY, .bool n.hidden, .slice n.wA n.wN n.wC, .slice n.kA n.kN n.kC]) 29)).alloc (.cells #[.string (wrtT n)] 199)).alloc (.cells #[.int .i64 n.order] 201) = V at *
  have HLL : Hid (Laid w n V (w.heap.size + 1) w1.heap.size (w1.heap.size + 1 + 1) (w1.heap.size + 1 + 1 + 1)) := LL
  clear LL A1 B1 HW HM HV
  generalize w1.heap.size + 1 + 1 + 1 = f at *
  generalize w1.heap.size + 1 + 1 = p at *
  generalize w1.heap.size = m at *
  rcases kind_cases HK.out with hkd | hkd | hkd | hkd | hkd | hkd | hkd | hkd | hkd | hkd

  · obtain ⟨X0, X1, X2, X3, X4, X5⟩ := HLL.out
    have x0 := X1.cell 0
    have x1 := X1.cell 1
    have y0 := X2.cell 0
    have y1 := X2.cell 1
    have y2 := X2.cell 2
    have y3 := X2.cell 3
    have z0 := X3.cell 0
    have HX : Hid (Below w.heap.size w V) := X5
    clear X0 X1 X2 X3 X4 X5 HLL
    rw [hkd]
    go_wp2
    go_ret
    exact ⟨V.heap.size, by simp only [hkd]; rfl, pt_new _ n _ _ _ (Blk.new V _ _) (by simp only [ptOf, Pt.cells, tyOf, hkd]; rfl), HX.out.size, HX.out.alloc HX.out.size _⟩
  · obtain ⟨X0, X1, X2, X3, X4, X5⟩ := HLL.out
    have x0 := X1.cell 0
    have x1 := X1.cell 1
    have y0 := X2.cell 0
    have y1 := X2.cell 1
    have y2 := X2.cell 2
    have y3 := X2.cell 3
    have z0 := X3.cell 0
    have o0 := X4.cell 0
    have HX : Hid (Below w.heap.size w V) := X5
    clear X0 X1 X2 X3 X4 X5 HLL
    rw [hkd]
    go_wp2
    go_ret
    exact ⟨V.heap.size, by simp only [hkd]; rfl, pt_new _ n _ _ _ (Blk.new V _ _) (by simp only [ptOf, Pt.cells, tyOf, hkd]; rfl), HX.out.size, HX.out.alloc HX.out.size _⟩
  · obtain ⟨X0, X1, X2, X3, X4, X5⟩ := HLL.out
    have x0 := X1.cell 0
    have x1 := X1.cell 1
    have y0 := X2.cell 0
    have y1 := X2.cell 1
    have y2 := X2.cell 2
    have y3 := X2.cell 3
    have z0 := X3.cell 0
    have o0 := X4.cell 0
    have HX : Hid (Below w.heap.size w V) := X5
    clear X0 X1 X2 X3 X4 X5 HLL
    rw [hkd]
    go_wp2
    go_ret
    exact ⟨V.heap.size, by simp only [hkd]; rfl, pt_new _ n _ _ _ (Blk.new V _ _) (by simp only [ptOf, Pt.cells, tyOf, hkd]; rfl), HX.out.size, HX.out.alloc HX.out.size _⟩
  · rw [hkd]
    go_upto_region 16 with fail
    refine R3.wp_region_lit 6 1 2 (fun _ b => .pointer (some ⟨b, 0, none⟩)) (fun _ => .cells #[.int .u8 4, .string n.name, .int .i64 (askW n), .int .i64 (askH n), .int .i64 n.maxW, .int .i64 n.maxH, .slice none 0 0] 213) [62] (by kernel_rfl) (by kernel_rfl) rfl ?_ rfl ?_
    · intro k hk
      have hc : k = 0 := by omega
      subst hc; rfl
    apply Exists.intro
    refine ⟨fun bs ne => ?_, ?_, ?_⟩
    · obtain ⟨X0, X1, X2, X3, X4, X5⟩ := HLL.out
      have x0 := fun t : Gb V bs => (X1.below t.below).cell 0
      have x1 := fun t : Gb V bs => (X1.below t.below).cell 1
      have y0 := fun t : Gb V bs => (X2.below t.below).cell 0
      have y1 := fun t : Gb V bs => (X2.below t.below).cell 1
      have y2 := fun t : Gb V bs => (X2.below t.below).cell 2
      have y3 := fun t : Gb V bs => (X2.below t.below).cell 3
      clear X0 X1 X2 X3 X4 X5
      simp only [List.take_succ_cons, List.take_zero]
      repeat (go_big_quiet_step (first | (go_at_call 100; exact gb_same (clone_nil _))))
      exact wpQuiet_nil rfl
    · intro i h1 h2
      have hc : i = 6 := by omega
      subst hc
      exact ⟨_, rfl, rfl, fun _ => by kernel_rfl⟩
    intro bl wr hbl hlo _
    obtain ⟨q1, q2⟩ := hlo 6 (by omega) (by omega)
    simp only [R3.layL]
    generalize bl 6 = g0 at *
    clear hlo
    refine wpAny_one 7 (by kernel_rfl) rfl ?_
    intro K hK
    go_simp
    refine hK _ _ ?_
    clear hK K
    refine wpAny_one 8 (by kernel_rfl) rfl ?_
    intro K hK
    go_simp
    refine hK _ _ ?_
    clear hK K
    refine wpAny_done (by kernel_rfl) ?_ _
    go_wp2
    go_ret
    exact ⟨g0, by simp only [hkd]; rfl, pt_new _ n g0 _ _ q2 (by simp only [ptOf, Pt.cells, tyOf, hkd]; rfl), Nat.le_trans HLL.out.below.size q1, HLL.out.below.trans (hbl.mono HLL.out.below.size)⟩
  · rw [hkd]
    go_upto_region 16 with fail
    refine R3.wp_region_lit 6 1 2 (fun _ b => .pointer (some ⟨b, 0, none⟩)) (fun _ => .cells #[.int .u8 5, .string n.name, .int .i64 (askW n), .int .i64 (askH n), .int .i64 n.maxW, .int .i64 n.maxH, .slice none 0 0] 213) [62] (by kernel_rfl) (by kernel_rfl) rfl ?_ rfl ?_
    · intro k hk
      have hc : k = 0 := by omega
      subst hc; rfl
    apply Exists.intro
    refine ⟨fun bs ne => ?_, ?_, ?_⟩
    · obtain ⟨X0, X1, X2, X3, X4, X5⟩ := HLL.out
      have x0 := fun t : Gb V bs => (X1.below t.below).cell 0
      have x1 := fun t : Gb V bs => (X1.below t.below).cell 1
      have y0 := fun t : Gb V bs => (X2.below t.below).cell 0
      have y1 := fun t : Gb V bs => (X2.below t.below).cell 1
      have y2 := fun t : Gb V bs => (X2.below t.below).cell 2
      have y3 := fun t : Gb V bs => (X2.below t.below).cell 3
      clear X0 X1 X2 X3 X4 X5
      simp only [List.take_succ_cons, List.take_zero]
      repeat (go_big_quiet_step (first | (go_at_call 100; exact gb_same (clone_nil _))))
      exact wpQuiet_nil rfl
    · intro i h1 h2
      have hc : i = 6 := by omega
      subst hc
      exact ⟨_, rfl, rfl, fun _ => by kernel_rfl⟩
    intro bl wr hbl hlo _
    obtain ⟨q1, q2⟩ := hlo 6 (by omega) (by omega)
    simp only [R3.layL]
    generalize bl 6 = g0 at *
    clear hlo
    refine wpAny_one 7 (by kernel_rfl) rfl ?_
    intro K hK
    go_simp
    refine hK _ _ ?_
    clear hK K
    refine wpAny_one 8 (by kernel_rfl) rfl ?_
    intro K hK
    go_simp
    refine hK _ _ ?_
    clear hK K
    refine wpAny_done (by kernel_rfl) ?_ _
    go_wp2
    go_ret
    exact ⟨g0, by simp only [hkd]; rfl, pt_new _ n g0 _ _ q2 (by simp only [ptOf, Pt.cells, tyOf, hkd]; rfl), Nat.le_trans HLL.out.below.size q1, HLL.out.below.trans (hbl.mono HLL.out.below.size)⟩
  · rw [hkd]
    go_upto_region 18 with fail
    refine R3.wp_region_lit 11 1 2 (fun _ b => .pointer (some ⟨b, 0, none⟩)) (fun _ => .cells #[.int .u8 6, .string n.name, .int .i64 (askW n), .int .i64 (askH n), .int .i64 n.maxW, .int .i64 n.maxH, .string (wrtT n), .int .i64 n.order, .int .i64 n.offX, .int .i64 n.offY, .slice none 0 0] 217) [77] (by kernel_rfl) (by kernel_rfl) rfl ?_ rfl ?_
    · intro k hk
      have hc : k = 0 := by omega
      subst hc; rfl
    apply Exists.intro
    refine ⟨fun bs ne => ?_, ?_, ?_⟩
    · obtain ⟨X0, X1, X2, X3, X4, X5⟩ := HLL.out
      have x0 := fun t : Gb V bs => (X1.below t.below).cell 0
      have x1 := fun t : Gb V bs => (X1.below t.below).cell 1
      have y0 := fun t : Gb V bs => (X2.below t.below).cell 0
      have y1 := fun t : Gb V bs => (X2.below t.below).cell 1
      have y2 := fun t : Gb V bs => (X2.below t.below).cell 2
      have y3 := fun t : Gb V bs => (X2.below t.below).cell 3
      have z0 := fun t : Gb V bs => (X3.below t.below).cell 0
      have o0 := fun t : Gb V bs => (X4.below t.below).cell 0
      have n14 := fun t : Gb V bs => (X0.below t.below).cell 14
      have n15 := fun t : Gb V bs => (X0.below t.below).cell 15
      clear X0 X1 X2 X3 X4 X5
      simp only [List.take_succ_cons, List.take_zero]
      repeat (go_big_quiet_step (first | (go_at_call 100; exact gb_same (clone_nil _))))
      exact wpQuiet_nil rfl
    · intro i h1 h2
      have hc : i = 11 := by omega
      subst hc
      exact ⟨_, rfl, rfl, fun _ => by kernel_rfl⟩
    intro bl wr hbl hlo _
    obtain ⟨q1, q2⟩ := hlo 11 (by omega) (by omega)
    simp only [R3.layL]
    generalize bl 11 = g0 at *
    clear hlo
    refine wpAny_one 12 (by kernel_rfl) rfl ?_
    intro K hK
    go_simp
    refine hK _ _ ?_
    clear hK K
    refine wpAny_one 13 (by kernel_rfl) rfl ?_
    intro K hK
    go_simp
    refine hK _ _ ?_
    clear hK K
    refine wpAny_done (by kernel_rfl) ?_ _
    go_wp2
    go_ret
    exact ⟨g0, by simp only [hkd]; rfl, pt_new _ n g0 _ _ q2 (by simp only [ptOf, Pt.cells, tyOf, hkd]; rfl), Nat.le_trans HLL.out.below.size q1, HLL.out.below.trans (hbl.mono HLL.out.below.size)⟩
  · obtain ⟨X0, X1, X2, X3, X4, X5⟩ := HLL.out
    have x0 := X1.cell 0
    have x1 := X1.cell 1
    have y0 := X2.cell 0
    have y1 := X2.cell 1
    have y2 := X2.cell 2
    have y3 := X2.cell 3
    have z0 := X3.cell 0
    have HX : Hid (Below w.heap.size w V) := X5
    clear X0 X1 X2 X3 X4 X5 HLL
    rw [hkd]
    go_wp2
    go_ret
    exact ⟨V.heap.size, by simp only [hkd]; rfl, pt_new _ n _ _ _ (Blk.new V _ _) (by simp only [ptOf, Pt.cells, tyOf, hkd]; rfl), HX.out.size, HX.out.alloc HX.out.size _⟩
  · obtain ⟨X0, X1, X2, X3, X4, X5⟩ := HLL.out
    have x0 := X1.cell 0
    have x1 := X1.cell 1
    have z0 := X3.cell 0
    have HX : Hid (Below w.heap.size w V) := X5
    clear X0 X1 X2 X3 X4 X5 HLL
    rw [hkd]
    go_wp2
    go_ret
    exact ⟨V.heap.size, by simp only [hkd]; rfl, pt_new _ n _ _ _ (Blk.new V _ _) (by simp only [ptOf, Pt.cells, tyOf, hkd]; rfl), HX.out.size, HX.out.alloc HX.out.size _⟩
  · obtain ⟨X0, X1, X2, X3, X4, X5⟩ := HLL.out
    have x0 := X1.cell 0
    have x1 := X1.cell 1
    have y0 := X2.cell 0
    have y1 := X2.cell 1
    have y2 := X2.cell 2
    have y3 := X2.cell 3
    have HX : Hid (Below w.heap.size w V) := X5
    clear X0 X1 X2 X3 X4 X5 HLL
    rw [hkd]
    go_wp2
    go_ret
    exact ⟨V.heap.size, by simp only [hkd]; rfl, pt_new _ n _ _ _ (Blk.new V _ _) (by simp only [ptOf, Pt.cells, tyOf, hkd]; rfl), HX.out.size, HX.out.alloc HX.out.size _⟩
  · rw [hkd]
    go_upto_region 16 with fail
    refine R3.wp_region_lit 6 1 2 (fun _ b => .pointer (some ⟨b, 0, none⟩)) (fun _ => .cells #[.int .u8 10, .string n.name, .int .i64 (askW n), .int .i64 (askH n), .int .i64 n.maxW, .int .i64 n.maxH, .slice none 0 0] 213) [62] (by kernel_rfl) (by kernel_rfl) rfl ?_ rfl ?_
    · intro k hk
      have hc : k = 0 := by omega
      subst hc; rfl
    apply Exists.intro
    refine ⟨fun bs ne => ?_, ?_, ?_⟩
    · obtain ⟨X0, X1, X2, X3, X4, X5⟩ := HLL.out
      have x0 := fun t : Gb V bs => (X1.below t.below).cell 0
      have x1 := fun t : Gb V bs => (X1.below t.below).cell 1
      have y0 := fun t : Gb V bs => (X2.below t.below).cell 0
      have y1 := fun t : Gb V bs => (X2.below t.below).cell 1
      have y2 := fun t : Gb V bs => (X2.below t.below).cell 2
      have y3 := fun t : Gb V bs => (X2.below t.below).cell 3
      clear X0 X1 X2 X3 X4 X5
      simp only [List.take_succ_cons, List.take_zero]
      repeat (go_big_quiet_step (first | (go_at_call 100; exact gb_same (clone_nil _))))
      exact wpQuiet_nil rfl
    · intro i h1 h2
      have hc : i = 6 := by omega
      subst hc
      exact ⟨_, rfl, rfl, fun _ => by kernel_rfl⟩
    intro bl wr hbl hlo _
    obtain ⟨q1, q2⟩ := hlo 6 (by omega) (by omega)
    simp only [R3.layL]
    generalize bl 6 = g0 at *
    clear hlo
    refine wpAny_one 7 (by kernel_rfl) rfl ?_
    intro K hK
    go_simp
    refine hK _ _ ?_
    clear hK K
    refine wpAny_one 8 (by kernel_rfl) rfl ?_
    intro K hK
    go_simp
    refine hK _ _ ?_
    clear hK K
    refine wpAny_done (by kernel_rfl) ?_ _
    go_wp2
    go_ret
    exact ⟨g0, by simp only [hkd]; rfl, pt_new _ n g0 _ _ q2 (by simp only [ptOf, Pt.cells, tyOf, hkd]; rfl), Nat.le_trans HLL.out.below.size q1, HLL.out.below.trans (hbl.mono HLL.out.below.size)⟩

end Go.Proofs.YtbnbfgkcndomaabGreatDoor
