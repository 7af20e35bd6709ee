/-
  awake answers true.
-/
import Derived.Test.YtdbafcldpleogaaGreatDoorUL
import Derived.Test.YtdbafcldpleogaaGreatDoorUO
import Derived.Test.YtdbafcldpleogaaGreatDoorUH
namespace Go.Proofs.YtdbafcldpleogaaGreatDoor
open Go.RowKit Go.Shelf

def labT : ByteArray := ⟨#[97, 98, 10, 99, 100, 101]⟩
def butT : ByteArray := ⟨#[111, 107]⟩
def labP : Pt := ptOf (ndT 1 labT) none 0 0
def butP : Pt := ptOf (ndT 2 butT) none 0 0
def fldP : Pt := ptOf (ndT 3 ⟨#[]⟩) none 0 0
def ptV (t : Ty) (b : Nat) : Value := .iface t.id (.pointer (some ⟨b, 0, none⟩))

theorem ex_lab (w : World) (T : Tbs w) : Calls Tryz.prog 36 #[.int .u8 1, .string ⟨#[97, 98, 10, 99, 100, 101]⟩] w fun e w' => ∃ b, e = .returned (ptV .label b) ∧ PtIn w' b labP ∧ Below w.heap.size w w' :=
  (madeT_any 1 labT w T rfl (by decide +kernel)).mono fun e w' ⟨b, h1, h2, _, h4⟩ => ⟨b, h1, h2, h4⟩
theorem ex_but (w : World) (T : Tbs w) : Calls Tryz.prog 36 #[.int .u8 2, .string ⟨#[111, 107]⟩] w fun e w' => ∃ b, e = .returned (ptV .button b) ∧ PtIn w' b butP ∧ Below w.heap.size w w' :=
  (madeT_any 2 butT w T rfl (by decide +kernel)).mono fun e w' ⟨b, h1, h2, _, h4⟩ => ⟨b, h1, h2, h4⟩
theorem ex_fld (w : World) (T : Tbs w) : Calls Tryz.prog 36 #[.int .u8 3, .string ⟨#[]⟩] w fun e w' => ∃ b, e = .returned (ptV .field b) ∧ PtIn w' b fldP ∧ Below w.heap.size w w' :=
  (madeT_any 3 ⟨#[]⟩ w T rfl (by decide +kernel)).mono fun e w' ⟨b, h1, h2, _, h4⟩ => ⟨b, h1, h2, h4⟩

theorem lab_m : meaE labP.t 0 0 = 0 ∧ meaN 0 labP.aw labP.mw 0 = 3 ∧ meaN 0 labP.ah labP.mh 0 = 2 := by decide +kernel
theorem but_m : meaE butP.t 0 0 = 0 ∧ meaN 0 butP.aw butP.mw 0 = 6 ∧ meaN 0 butP.ah butP.mh 0 = 1 := by decide +kernel
theorem ex_mlab (b : Nat) (w : World) (h : PtIn w b labP) : Calls Tryz.prog 25 #[ptV .label b, .agg #[.int .i64 0, .int .i64 0]] w fun e w' => e = .returned (.tuple #[.agg #[.int .i64 3, .int .i64 2], .int .i64 0]) ∧ Below w.heap.size w w' := by
  have := measure_made labP b 0 0 w h rfl
  rw [lab_m.1, lab_m.2.1, lab_m.2.2] at this
  exact this
theorem ex_mbut (b : Nat) (w : World) (h : PtIn w b butP) : Calls Tryz.prog 25 #[ptV .button b, .agg #[.int .i64 0, .int .i64 0]] w fun e w' => e = .returned (.tuple #[.agg #[.int .i64 6, .int .i64 1], .int .i64 0]) ∧ Below w.heap.size w w' := by
  have := measure_made butP b 0 0 w h rfl
  rw [but_m.1, but_m.2.1, but_m.2.2] at this
  exact this
theorem ex_nil (w : World) : Calls Tryz.prog 32 #[.int .u8 2] w fun e w' => e = .returned (.iface Ty.button.id (.pointer none)) ∧ w' = w := nilk_any 2 w
theorem ex_must (v : Value) (w : World) : Calls Tryz.prog 14 #[.iface Ty.label.id v, .int .u16 6] w fun e w' => e = .returned (.tuple #[.int .u16 4, .int .i64 61]) ∧ Below w.heap.size w w' := must_ty .label v 6 w

def butR : Rc := ⟨0, 0, 8, 3⟩
def butK : Lk := ⟨4, 0, 0, 0, 0, 0, 0, 0, 0, true, 0⟩
theorem but_s : strE butP.t butR butK = 0 ∧ (strL butP butR butK).length = 2 := by decide +kernel
theorem but_l : strL butP butR butK = [⟨2, 0, 0, 8, 3, 255, 255, 255, 255, 0, 0, 0, 0, ⟨#[]⟩, 0⟩, ⟨3, 1, 1, 6, 1, 255, 255, 255, 255, 0, 0, 0, 0, ⟨#[91, 32, 111, 107, 32, 93]⟩, 0⟩] := by kernel_rfl
theorem ex_str (b : Nat) (w : World) (h : PtIn w b butP) : Calls Tryz.prog 28 #[ptV .button b, .agg #[.int .i64 0, .int .i64 0, .int .i64 8, .int .i64 3], .agg #[.int .u8 4, .int .u8 0, .int .u8 0, .int .u8 0, .int .u8 0, .int .u8 0, .int .u8 0, .int .u8 0, .int .u8 0, .bool true, .int .i64 0]] w fun e w' => ∃ g c, e = .returned (.tuple #[.slice (some ⟨g, 0, none⟩) 2 c, .int .i64 0]) ∧ (2 ≤ c ∧ w'.cell? ⟨g, 16, none⟩ = some (.int .i64 1) ∧ w'.cell? ⟨g, 17, none⟩ = some (.int .i64 1) ∧ w'.cell? ⟨g, 28, none⟩ = some (.string ⟨#[91, 32, 111, 107, 32, 93]⟩)) ∧ Below w.heap.size w w' := by
  refine (strokes_made butP b butR butK w h rfl ⟨by decide, by decide⟩ ⟨by decide, by decide⟩).mono ?_
  rintro e w' ⟨v, he, hown, hb⟩
  rw [but_s.1] at he
  rw [but_s.2, but_l] at hown
  have hown' := hown
  obtain ⟨hl, h'⟩ := hown'
  rcases h' with ⟨_, h0⟩ | ⟨g, cap, cur, rfl, _, _, hc, _⟩
  · cases h0
  · refine ⟨g, cap, he, ⟨hc, ?_, ?_, ?_⟩, hb⟩
    · exact hown.cellAt 16 (by decide)
    · exact hown.cellAt 17 (by decide)
    · exact hown.cellAt 28 (by decide)
theorem ex_tak (b : Nat) (w : World) (h : PtIn w b fldP) : Calls Tryz.prog 21 #[ptV .field b, .string ⟨#[116, 101, 120, 116]⟩] w fun e w' => e = .returned (.tuple #[.bool true, .int .i64 0]) ∧ Below w.heap.size w w' := by
  have := takes_made fldP b ⟨#[116, 101, 120, 116]⟩ w h rfl
  rw [show (fldP.t.acc && ((⟨#[116, 101, 120, 116]⟩ : ByteArray).toList == droT.toList)) = true by decide +kernel, show (if fldP.t.acc = true then (0 : Int) else 8) = 0 by decide] at this
  exact this
theorem ex_can (v : Value) (w : World) : Calls Tryz.prog 17 #[.iface Ty.label.id v] w fun e w' => e = .returned (.int .u16 3) ∧ w' = w := can_ty_any .label v w
theorem ex_canb (v : Value) (w : World) : Calls Tryz.prog 17 #[.iface Ty.button.id v] w fun e w' => e = .returned (.int .u16 7) ∧ w' = w := can_ty_any .button v w
theorem ex_none (b : Nat) (w : World) (h : PtIn w b labP) : Calls Tryz.prog 18 #[ptV .label b] w fun e w' => e = .returned (.bool false) ∧ w' = w := none_made .label b 1 w h.kind.1 rfl


set_option maxRecDepth 10000 in
set_option maxHeartbeats 4000000 in
theorem awake_any (w : World) (T : Tbs w) :
    Calls Tryz.prog 8 #[] w fun e w' => e = .returned (.bool true) ∧ Below w.heap.size w w' := by
  have HT : Hid (Tbs w) := T
  clear T
  go_enter Tryz.func8, Tryz.ntmps8
  go_wp2_with fail
  refine (ex_lab w HT.out).mono ?_
  rintro e w1 ⟨b1, rfl, p1, h1⟩
  have H1 : Hid (PtIn w1 b1 labP ∧ Below w.heap.size w w1) := ⟨p1, h1⟩
  clear p1 h1
  go_wp2_with fail
  refine (ex_but w1 (HT.out.below H1.out.2)).mono ?_
  rintro e w2 ⟨b2, rfl, p2, h2⟩
  have H2 : Hid (PtIn w2 b1 labP ∧ PtIn w2 b2 butP ∧ Below w.heap.size w w2) := ⟨H1.out.1.below h2, p2, H1.out.2.trans (h2.mono H1.out.2.size)⟩
  clear p2 h2 H1
  go_wp2_with fail
  refine (ex_mlab b1 w2 H2.out.1).mono ?_
  rintro e w3 ⟨rfl, h3⟩
  have H3 : Hid (PtIn w3 b1 labP ∧ PtIn w3 b2 butP ∧ Below w.heap.size w w3) := ⟨H2.out.1.below h3, H2.out.2.1.below h3, H2.out.2.2.trans (h3.mono H2.out.2.2.size)⟩
  clear h3 H2
  go_wp2_with fail
  have D1 : Hid (At2 (w3.alloc (.cells #[.int .i64 3, .int .i64 2] 23)) w3.heap.size 3 2) := At2.new _ _ _ _
  have H4 : Hid (PtIn (w3.alloc (.cells #[.int .i64 3, .int .i64 2] 23)) b1 labP ∧ PtIn (w3.alloc (.cells #[.int .i64 3, .int .i64 2] 23)) b2 butP ∧ Below w.heap.size w (w3.alloc (.cells #[.int .i64 3, .int .i64 2] 23))) := ⟨H3.out.1.alloc _, H3.out.2.1.alloc _, H3.out.2.2.alloc H3.out.2.2.size _⟩
  generalize w3.alloc (.cells #[.int .i64 3, .int .i64 2] 23) = w4 at *
  generalize w3.heap.size = g1 at *
  clear H3
  refine (ex_mbut b2 w4 H4.out.2.1).mono ?_
  rintro e w5 ⟨rfl, h5⟩
  have H5 : Hid (PtIn w5 b1 labP ∧ PtIn w5 b2 butP ∧ Below w.heap.size w w5 ∧ At2 w5 g1 3 2) := ⟨H4.out.1.below h5, H4.out.2.1.below h5, H4.out.2.2.trans (h5.mono H4.out.2.2.size), D1.out.below h5⟩
  clear h5 H4 D1
  go_wp2_with fail
  have D2 : Hid (At2 (w5.alloc (.cells #[.int .i64 6, .int .i64 1] 23)) w5.heap.size 6 1) := At2.new _ _ _ _
  have H6 : Hid (PtIn (w5.alloc (.cells #[.int .i64 6, .int .i64 1] 23)) b1 labP ∧ PtIn (w5.alloc (.cells #[.int .i64 6, .int .i64 1] 23)) b2 butP ∧ Below w.heap.size w (w5.alloc (.cells #[.int .i64 6, .int .i64 1] 23)) ∧ At2 (w5.alloc (.cells #[.int .i64 6, .int .i64 1] 23)) g1 3 2) := ⟨H5.out.1.alloc _, H5.out.2.1.alloc _, H5.out.2.2.1.alloc H5.out.2.2.1.size _, H5.out.2.2.2.alloc _⟩
  generalize w5.alloc (.cells #[.int .i64 6, .int .i64 1] 23) = w6 at *
  generalize w5.heap.size = g2 at *
  clear H5
  refine (ex_nil w6).mono ?_
  rintro e w7 ⟨rfl, rfl⟩
  go_wp2_with fail
  refine (measure_hollow .button 0 0 w7).mono ?_
  rintro e w8 ⟨rfl, h8⟩
  have H8 : Hid (PtIn w8 b1 labP ∧ PtIn w8 b2 butP ∧ Below w.heap.size w w8 ∧ At2 w8 g1 3 2 ∧ At2 w8 g2 6 1) := ⟨H6.out.1.below h8, H6.out.2.1.below h8, H6.out.2.2.1.trans (h8.mono H6.out.2.2.1.size), H6.out.2.2.2.below h8, D2.out.below h8⟩
  clear h8 H6 D2
  go_wp2_with fail
  have H9 : Hid (PtIn (w8.alloc (.cells #[.int .i64 0, .int .i64 0] 23)) b1 labP ∧ PtIn (w8.alloc (.cells #[.int .i64 0, .int .i64 0] 23)) b2 butP ∧ Below w.heap.size w (w8.alloc (.cells #[.int .i64 0, .int .i64 0] 23)) ∧ At2 (w8.alloc (.cells #[.int .i64 0, .int .i64 0] 23)) g1 3 2 ∧ At2 (w8.alloc (.cells #[.int .i64 0, .int .i64 0] 23)) g2 6 1) := ⟨H8.out.1.alloc _, H8.out.2.1.alloc _, H8.out.2.2.1.alloc H8.out.2.2.1.size _, H8.out.2.2.2.1.alloc _, H8.out.2.2.2.2.alloc _⟩
  generalize w8.alloc (.cells #[.int .i64 0, .int .i64 0] 23) = w9 at *
  generalize w8.heap.size = g3 at *
  clear H8
  refine (ex_must _ w9).mono ?_
  rintro e w10 ⟨rfl, h10⟩
  have H10 : Hid (PtIn w10 b1 labP ∧ PtIn w10 b2 butP ∧ Below w.heap.size w w10 ∧ At2 w10 g1 3 2 ∧ At2 w10 g2 6 1) := ⟨H9.out.1.below h10, H9.out.2.1.below h10, H9.out.2.2.1.trans (h10.mono H9.out.2.2.1.size), H9.out.2.2.2.1.below h10, H9.out.2.2.2.2.below h10⟩
  clear h10 H9
  go_wp2_with fail
  refine (ex_str b2 w10 H10.out.2.1).mono ?_
  rintro e w11 ⟨gs, cs, rfl, hcs, h11⟩
  have H11 : Hid (PtIn w11 b1 labP ∧ Below w.heap.size w w11 ∧ At2 w11 g1 3 2 ∧ At2 w11 g2 6 1 ∧ (2 ≤ cs ∧ w11.cell? ⟨gs, 16, none⟩ = some (.int .i64 1) ∧ w11.cell? ⟨gs, 17, none⟩ = some (.int .i64 1) ∧ w11.cell? ⟨gs, 28, none⟩ = some (.string ⟨#[91, 32, 111, 107, 32, 93]⟩))) := ⟨H10.out.1.below h11, H10.out.2.2.1.trans (h11.mono H10.out.2.2.1.size), H10.out.2.2.2.1.below h11, H10.out.2.2.2.2.below h11, hcs⟩
  clear h11 H10 hcs
  go_wp2_with fail
  refine (ex_fld w11 (HT.out.below H11.out.2.1)).mono ?_
  rintro e w12 ⟨b3, rfl, p3, h12⟩
  have cB : ∀ {p : Addr} {x : Value}, w11.cell? p = some x → w12.cell? p = some x := fun {p x} h => by
    rw [h12.cell (p := p) (World.block_lt_of_cell? _ _ h)]; exact h
  have H12 : Hid (PtIn w12 b1 labP ∧ Below w.heap.size w w12 ∧ At2 w12 g1 3 2 ∧ At2 w12 g2 6 1 ∧ (2 ≤ cs ∧ w12.cell? ⟨gs, 16, none⟩ = some (.int .i64 1) ∧ w12.cell? ⟨gs, 17, none⟩ = some (.int .i64 1) ∧ w12.cell? ⟨gs, 28, none⟩ = some (.string ⟨#[91, 32, 111, 107, 32, 93]⟩)) ∧ PtIn w12 b3 fldP) := ⟨H11.out.1.below h12, H11.out.2.1.trans (h12.mono H11.out.2.1.size), H11.out.2.2.1.below h12, H11.out.2.2.2.1.below h12, ⟨H11.out.2.2.2.2.1, cB H11.out.2.2.2.2.2.1, cB H11.out.2.2.2.2.2.2.1, cB H11.out.2.2.2.2.2.2.2⟩, p3⟩
  clear h12 H11 p3 cB
  go_wp2_with fail
  refine (ex_tak b3 w12 H12.out.2.2.2.2.2).mono ?_
  rintro e w13 ⟨rfl, h13⟩
  have cB : ∀ {p : Addr} {x : Value}, w12.cell? p = some x → w13.cell? p = some x := fun {p x} h => by
    rw [h13.cell (p := p) (World.block_lt_of_cell? _ _ h)]; exact h
  have H13 : Hid (PtIn w13 b1 labP ∧ Below w.heap.size w w13) := ⟨H12.out.1.below h13, H12.out.2.1.trans (h13.mono H12.out.2.1.size)⟩
  obtain ⟨x0, x1⟩ := H12.out.2.2.1.below h13
  obtain ⟨y0, y1⟩ := H12.out.2.2.2.1.below h13
  have z0 : 2 ≤ cs := H12.out.2.2.2.2.1.1
  have z1 := cB H12.out.2.2.2.2.1.2.1
  have z2 := cB H12.out.2.2.2.2.1.2.2.1
  have z3 := cB H12.out.2.2.2.2.1.2.2.2
  have C1 : Hid (∀ v, Calls Tryz.prog 17 #[.iface Ty.label.id v] w13 fun e w' => e = .returned (.int .u16 3) ∧ w' = w13) := fun v => ex_can v w13
  have C2 : Hid (∀ v, Calls Tryz.prog 17 #[.iface Ty.button.id v] w13 fun e w' => e = .returned (.int .u16 7) ∧ w' = w13) := fun v => ex_canb v w13
  have C3 : Hid (Calls Tryz.prog 17 #[.nilIface] w13 fun e w' => e = .returned (.int .u16 0) ∧ w' = w13) := can_nil_any w13
  have N1 : Hid (Calls Tryz.prog 18 #[.nilIface] w13 fun e w' => e = .returned (.bool true) ∧ w' = w13) := none_nil w13
  have N2 : Hid (Calls Tryz.prog 18 #[.iface Ty.button.id (.pointer none)] w13 fun e w' => e = .returned (.bool true) ∧ w' = w13) := none_hollow .button w13
  have N3 : Hid (Calls Tryz.prog 18 #[ptV .label b1] w13 fun e w' => e = .returned (.bool false) ∧ w' = w13) := ex_none b1 w13 H13.out.1
  have N4 : Hid (Calls Tryz.prog 32 #[.int .u8 2] w13 fun e w' => e = .returned (.iface Ty.button.id (.pointer none)) ∧ w' = w13) := ex_nil w13
  clear h13 H12 cB
  go_wp2_with fail
  refine (C1.out _).mono ?_
  rintro e w14 ⟨rfl, rfl⟩
  go_wp2_with fail
  refine C3.out.mono ?_
  rintro e w14 ⟨rfl, rfl⟩
  go_wp2_with fail
  refine N1.out.mono ?_
  rintro e w14 ⟨rfl, rfl⟩
  go_wp2_with fail
  refine N4.out.mono ?_
  rintro e w14 ⟨rfl, rfl⟩
  go_wp2_with fail
  refine N2.out.mono ?_
  rintro e w14 ⟨rfl, rfl⟩
  go_wp2_with fail
  refine N4.out.mono ?_
  rintro e w14 ⟨rfl, rfl⟩
  go_wp2_with fail
  refine (C2.out _).mono ?_
  rintro e w14 ⟨rfl, rfl⟩
  go_wp2_with fail
  refine N3.out.mono ?_
  rintro e w14 ⟨rfl, rfl⟩
  go_wp2
  go_ret
  exact ⟨rfl, H13.out.2⟩

end Go.Proofs.YtdbafcldpleogaaGreatDoor
