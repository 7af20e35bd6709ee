/-
  What the document's examples say: awake.
-/
import Derived.Test.YtdbafcldpleogaaGreatDoorUL
import Derived.Test.YtdbafcldpleogaaGreatDoorUO
import Derived.Test.YtdbafcldpleogaaGreatDoorUH
namespace Go.Proofs.YtdbafcldpleogaaGreatDoor
open Go.RowKit Go.Shelf

def labT : ByteArray := ⟨#[97, 98, 10, 99, 100, 101]⟩
def butT : ByteArray := ⟨#[111, 107]⟩
def labP : Pt := ptOf (ndT 1 labT) none 0 0
def butP : Pt := ptOf (ndT 2 butT) none 0 0
def fldP : Pt := ptOf (ndT 3 ⟨#[]⟩) none 0 0
def ptV (t : Ty) (b : Nat) : Value := .iface t.id (.pointer (some ⟨b, 0, none⟩))

theorem ex_lab (w : World) (T : Tbs w) : Calls Tryz.prog 36 #[.int .u8 1, .string ⟨#[97, 98, 10, 99, 100, 101]⟩] w fun e w' => ∃ b, e = .returned (ptV .label b) ∧ PtIn w' b labP ∧ Below w.heap.size w w' :=
  (madeT_any 1 labT w T rfl (by decide +kernel)).mono fun e w' ⟨b, h1, h2, _, h4⟩ => ⟨b, h1, h2, h4⟩
theorem ex_but (w : World) (T : Tbs w) : Calls Tryz.prog 36 #[.int .u8 2, .string ⟨#[111, 107]⟩] w fun e w' => ∃ b, e = .returned (ptV .button b) ∧ PtIn w' b butP ∧ Below w.heap.size w w' :=
  (madeT_any 2 butT w T rfl (by decide +kernel)).mono fun e w' ⟨b, h1, h2, _, h4⟩ => ⟨b, h1, h2, h4⟩
theorem ex_fld (w : World) (T : Tbs w) : Calls Tryz.prog 36 #[.int .u8 3, .string ⟨#[]⟩] w fun e w' => ∃ b, e = .returned (ptV .field b) ∧ PtIn w' b fldP ∧ Below w.heap.size w w' :=
  (madeT_any 3 ⟨#[]⟩ w T rfl (by decide +kernel)).mono fun e w' ⟨b, h1, h2, _, h4⟩ => ⟨b, h1, h2, h4⟩

theorem lab_m : meaE labP.t 0 0 = 0 ∧ meaN 0 labP.aw labP.mw 0 = 3 ∧ meaN 0 labP.ah labP.mh 0 = 2 := by decide +kernel
theorem but_m : meaE butP.t 0 0 = 0 ∧ meaN 0 butP.aw butP.mw 0 = 6 ∧ meaN 0 butP.ah butP.mh 0 = 1 := by decide +kernel
theorem ex_mlab (b : Nat) (w : World) (h : PtIn w b labP) : Calls Tryz.prog 25 #[ptV .label b, .agg #[.int .i64 0, .int .i64 0]] w fun e w' => e = .returned (.tuple #[.agg #[.int .i64 3, .int .i64 2], .int .i64 0]) ∧ Below w.heap.size w w' := by
  have := measure_made labP b 0 0 w h rfl
  rw [lab_m.1, lab_m.2.1, lab_m.2.2] at this
  exact this
theorem ex_mbut (b : Nat) (w : World) (h : PtIn w b butP) : Calls Tryz.prog 25 #[ptV .button b, .agg #[.int .i64 0, .int .i64 0]] w fun e w' => e = .returned (.tuple #[.agg #[.int .i64 6, .int .i64 1], .int .i64 0]) ∧ Below w.heap.size w w' := by
  have := measure_made butP b 0 0 w h rfl
  rw [but_m.1, but_m.2.1, but_m.2.2] at this
  exact this
theorem ex_nil (w : World) : Calls Tryz.prog 32 #[.int .u8 2] w fun e w' => e = .returned (.iface Ty.button.id (.pointer none)) ∧ w' = w := nilk_any 2 w
theorem ex_must (v : Value) (w : World) : Calls Tryz.prog 14 #[.iface Ty.label.id v, .int .u16 6] w fun e w' => e = .returned (.tuple #[.int .u16 4, .int .i64 61]) ∧ Below w.heap.size w w' := must_ty .label v 6 w

def butR : Rc := ⟨0, 0, 8, 3⟩
def butK : Lk := ⟨4, 0, 0, 0, 0, 0, 0, 0, 0, true, 0⟩
theorem but_s : strE butP.t butR butK = 0 ∧ (strL butP butR butK).length = 2 := by decide +kernel
theorem but_l : strL butP butR butK = [⟨2, 0, 0, 8, 3, 255, 255, 255, 255, 0, 0, 0, 0, ⟨#[]⟩, 0⟩, ⟨3, 1, 1, 6, 1, 255, 255, 255, 255, 0, 0, 0, 0, ⟨#[91, 32, 111, 107, 32, 93]⟩, 0⟩] := by kernel_rfl
theorem ex_str (b : Nat) (w : World) (h : PtIn w b butP) : Calls Tryz.prog 28 #[ptV .button b, .agg #[.int .i64 0, .int .i64 0, .int .i64 8, .int .i64 3], .agg #[.int .u8 4, .int .u8 0, .int .u8 0, .int .u8 0, .int .u8 0, .int .u8 0, .int .u8 0, .int .u8 0, .int .u8 0, .bool true, .int .i64 0]] w fun e w' => ∃ g c, e = .returned (.tuple #[.slice (some ⟨g, 0, none⟩) 2 c, .int .i64 0]) ∧ (2 ≤ c ∧ w'.cell? ⟨g, 16, none⟩ = some (.int .i64 1) ∧ w'.cell? ⟨g, 17, none⟩ = some (.int .i64 1) ∧ w'.cell? ⟨g, 28, none⟩ = some (.string ⟨#[91, 32, 111, 107, 32, 93]⟩)) ∧ Below w.heap.size w w' := by
  refine (strokes_made butP b butR butK w h rfl ⟨by decide, by decide⟩ ⟨by decide, by decide⟩).mono ?_
  rintro e w' ⟨v, he, hown, hb⟩
  rw [but_s.1] at he
  rw [but_s.2, but_l] at hown
  have hown' := hown
  obtain ⟨hl, h'⟩ := hown'
  rcases h' with ⟨_, h0⟩ | ⟨g, cap, cur, rfl, _, _, hc, _⟩
  · cases h0
  · refine ⟨g, cap, he, ⟨hc, ?_, ?_, ?_⟩, hb⟩
    · exact hown.cellAt 16 (by decide)
    · exact hown.cellAt 17 (by decide)
    · exact hown.cellAt 28 (by decide)
theorem ex_tak (b : Nat) (w : World) (h : PtIn w b fldP) : Calls Tryz.prog 21 #[ptV .field b, .string ⟨#[116, 101, 120, 116]⟩] w fun e w' => e = .returned (.tuple #[.bool true, .int .i64 0]) ∧ Below w.heap.size w w' := by
  have := takes_made fldP b ⟨#[116, 101, 120, 116]⟩ w h rfl
  rw [show (fldP.t.acc && ((⟨#[116, 101, 120, 116]⟩ : ByteArray).toList == droT.toList)) = true by decide +kernel, show (if fldP.t.acc = true then (0 : Int) else 8) = 0 by decide] at this
  exact this
theorem ex_can (v : Value) (w : World) : Calls Tryz.prog 17 #[.iface Ty.label.id v] w fun e w' => e = .returned (.int .u16 3) ∧ w' = w := can_ty_any .label v w
theorem ex_canb (v : Value) (w : World) : Calls Tryz.prog 17 #[.iface Ty.button.id v] w fun e w' => e = .returned (.int .u16 7) ∧ w' = w := can_ty_any .button v w
theorem ex_none (b : Nat) (w : World) (h : PtIn w b labP) : Calls Tryz.prog 18 #[ptV .label b] w fun e w' => e = .returned (.bool false) ∧ w' = w := none_made .label b 1 w h.kind.1 rfl

end Go.Proofs.YtdbafcldpleogaaGreatDoor
