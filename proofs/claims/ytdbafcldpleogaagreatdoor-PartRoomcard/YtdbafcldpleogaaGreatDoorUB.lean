/-
  Kind and Name of parts; None; the parts as such that can.
-/
import Derived.Test.YtdbafcldpleogaaGreatDoorUA
namespace Go.Proofs.YtdbafcldpleogaaGreatDoor
open Go.RowKit

def Ty.mes : Ty → Bool
  | .label => true | .button => true | .field => true | .box => true | .scroll => true | .canvas => false | .gap => true
def Ty.pai : Ty → Bool
  | .label => true | .button => true | .field => true | .box => false | .scroll => true | .canvas => true | .gap => false
def Ty.foc : Ty → Bool
  | .label => false | .button => true | .field => true | .box => false | .scroll => true | .canvas => false | .gap => false
def Ty.scr : Ty → Bool
  | .label => false | .button => false | .field => false | .box => false | .scroll => true | .canvas => false | .gap => false
def Ty.acc : Ty → Bool
  | .label => false | .button => false | .field => true | .box => false | .scroll => false | .canvas => false | .gap => false
def Ty.hol : Ty → Bool
  | .label => false | .button => false | .field => false | .box => true | .scroll => true | .canvas => false | .gap => false

theorem me_label_Kind (f : Nat) (x : Option Addr) (w : World) : (method (f + 1) 156 (.pointer x) "Kind").run Tryz.prog w = .ok (164, .pointer x) w := by kernel_rfl
theorem me_label_Name (f : Nat) (x : Option Addr) (w : World) : (method (f + 1) 156 (.pointer x) "Name").run Tryz.prog w = .ok (165, .pointer x) w := by kernel_rfl
theorem me_button_Kind (f : Nat) (x : Option Addr) (w : World) : (method (f + 1) 159 (.pointer x) "Kind").run Tryz.prog w = .ok (166, .pointer x) w := by kernel_rfl
theorem me_button_Name (f : Nat) (x : Option Addr) (w : World) : (method (f + 1) 159 (.pointer x) "Name").run Tryz.prog w = .ok (167, .pointer x) w := by kernel_rfl
theorem me_field_Kind (f : Nat) (x : Option Addr) (w : World) : (method (f + 1) 162 (.pointer x) "Kind").run Tryz.prog w = .ok (168, .pointer x) w := by kernel_rfl
theorem me_field_Name (f : Nat) (x : Option Addr) (w : World) : (method (f + 1) 162 (.pointer x) "Name").run Tryz.prog w = .ok (169, .pointer x) w := by kernel_rfl
theorem me_box_Kind (f : Nat) (x : Option Addr) (w : World) : (method (f + 1) 167 (.pointer x) "Kind").run Tryz.prog w = .ok (171, .pointer x) w := by kernel_rfl
theorem me_box_Name (f : Nat) (x : Option Addr) (w : World) : (method (f + 1) 167 (.pointer x) "Name").run Tryz.prog w = .ok (172, .pointer x) w := by kernel_rfl
theorem me_scroll_Kind (f : Nat) (x : Option Addr) (w : World) : (method (f + 1) 172 (.pointer x) "Kind").run Tryz.prog w = .ok (174, .pointer x) w := by kernel_rfl
theorem me_scroll_Name (f : Nat) (x : Option Addr) (w : World) : (method (f + 1) 172 (.pointer x) "Name").run Tryz.prog w = .ok (175, .pointer x) w := by kernel_rfl
theorem me_canvas_Kind (f : Nat) (x : Option Addr) (w : World) : (method (f + 1) 177 (.pointer x) "Kind").run Tryz.prog w = .ok (177, .pointer x) w := by kernel_rfl
theorem me_canvas_Name (f : Nat) (x : Option Addr) (w : World) : (method (f + 1) 177 (.pointer x) "Name").run Tryz.prog w = .ok (178, .pointer x) w := by kernel_rfl
theorem me_gap_Kind (f : Nat) (x : Option Addr) (w : World) : (method (f + 1) 180 (.pointer x) "Kind").run Tryz.prog w = .ok (179, .pointer x) w := by kernel_rfl
theorem me_gap_Name (f : Nat) (x : Option Addr) (w : World) : (method (f + 1) 180 (.pointer x) "Name").run Tryz.prog w = .ok (180, .pointer x) w := by kernel_rfl

set_option maxHeartbeats 1000000 in
theorem none_hollow (t : Ty) (w : World) :
    Calls Tryz.prog 18 #[.iface t.id (.pointer none)] w fun e w' => e = .returned (.bool true) ∧ w' = w := by
  cases t
  · simp only [Ty.id]
    have m1 := me_label_Kind
    go_enter Tryz.func18, Tryz.ntmps18
    go_wp2
    go_ret
    exact ⟨rfl, rfl⟩
  · simp only [Ty.id]
    have m1 := me_button_Kind
    go_enter Tryz.func18, Tryz.ntmps18
    go_wp2
    go_ret
    exact ⟨rfl, rfl⟩
  · simp only [Ty.id]
    have m1 := me_field_Kind
    go_enter Tryz.func18, Tryz.ntmps18
    go_wp2
    go_ret
    exact ⟨rfl, rfl⟩
  · simp only [Ty.id]
    have m1 := me_box_Kind
    go_enter Tryz.func18, Tryz.ntmps18
    go_wp2
    go_ret
    exact ⟨rfl, rfl⟩
  · simp only [Ty.id]
    have m1 := me_scroll_Kind
    go_enter Tryz.func18, Tryz.ntmps18
    go_wp2
    go_ret
    exact ⟨rfl, rfl⟩
  · simp only [Ty.id]
    have m1 := me_canvas_Kind
    go_enter Tryz.func18, Tryz.ntmps18
    go_wp2
    go_ret
    exact ⟨rfl, rfl⟩
  · simp only [Ty.id]
    have m1 := me_gap_Kind
    go_enter Tryz.func18, Tryz.ntmps18
    go_wp2
    go_ret
    exact ⟨rfl, rfl⟩

set_option maxHeartbeats 1000000 in
theorem none_made (t : Ty) (b k : Nat) (w : World) (h0 : w.cell? ⟨b, 0, none⟩ = some (.int .u8 (k : Nat))) (hk : kindB k = true) :
    Calls Tryz.prog 18 #[.iface t.id (.pointer (some ⟨b, 0, none⟩))] w fun e w' => e = .returned (.bool false) ∧ w' = w := by
  have hq : ((k : Int) == 0) = false := by
    have := kind_cases hk
    exact beq_eq_false_iff_ne.2 (by omega)
  clear hk
  cases t
  · simp only [Ty.id]
    have m1 := me_label_Kind
    go_enter Tryz.func18, Tryz.ntmps18
    go_wp2
    go_ret
    exact ⟨rfl, rfl⟩
  · simp only [Ty.id]
    have m1 := me_button_Kind
    go_enter Tryz.func18, Tryz.ntmps18
    go_wp2
    go_ret
    exact ⟨rfl, rfl⟩
  · simp only [Ty.id]
    have m1 := me_field_Kind
    go_enter Tryz.func18, Tryz.ntmps18
    go_wp2
    go_ret
    exact ⟨rfl, rfl⟩
  · simp only [Ty.id]
    have m1 := me_box_Kind
    go_enter Tryz.func18, Tryz.ntmps18
    go_wp2
    go_ret
    exact ⟨rfl, rfl⟩
  · simp only [Ty.id]
    have m1 := me_scroll_Kind
    go_enter Tryz.func18, Tryz.ntmps18
    go_wp2
    go_ret
    exact ⟨rfl, rfl⟩
  · simp only [Ty.id]
    have m1 := me_canvas_Kind
    go_enter Tryz.func18, Tryz.ntmps18
    go_wp2
    go_ret
    exact ⟨rfl, rfl⟩
  · simp only [Ty.id]
    have m1 := me_gap_Kind
    go_enter Tryz.func18, Tryz.ntmps18
    go_wp2
    go_ret
    exact ⟨rfl, rfl⟩

theorem none_nil (w : World) :
    Calls Tryz.prog 18 #[.nilIface] w fun e w' => e = .returned (.bool true) ∧ w' = w := by
  go_enter Tryz.func18, Tryz.ntmps18
  go_wp2
  go_ret
  exact ⟨rfl, rfl⟩

set_option maxHeartbeats 1000000 in
theorem mes_made (t : Ty) (b k : Nat) (w : World) (h0 : w.cell? ⟨b, 0, none⟩ = some (.int .u8 (k : Nat))) (hk : kindB k = true) :
    Calls Tryz.prog 56 #[.iface t.id (.pointer (some ⟨b, 0, none⟩))] w fun e w' => e = .returned (bif t.mes then .iface t.id (.pointer (some ⟨b, 0, none⟩)) else .nilIface) ∧ w' = w := by
  have hn : Hid (∀ t : Ty, Calls Tryz.prog 18 #[.iface t.id (.pointer (some ⟨b, 0, none⟩))] w fun e w' => e = .returned (.bool false) ∧ w' = w) := fun t => none_made t b k w h0 hk
  clear h0 hk
  cases t
  · have h1 := hn.out .label
    simp only [Ty.id] at h1 ⊢
    have m1 := as_label_1
    go_enter Tryz.func56, Tryz.ntmps56
    go_wp2_with fail
    refine h1.mono ?_
    rintro e w1 ⟨rfl, rfl⟩
    go_wp2
    go_ret
    exact ⟨rfl, rfl⟩
  · have h1 := hn.out .button
    simp only [Ty.id] at h1 ⊢
    have m1 := as_button_1
    go_enter Tryz.func56, Tryz.ntmps56
    go_wp2_with fail
    refine h1.mono ?_
    rintro e w1 ⟨rfl, rfl⟩
    go_wp2
    go_ret
    exact ⟨rfl, rfl⟩
  · have h1 := hn.out .field
    simp only [Ty.id] at h1 ⊢
    have m1 := as_field_1
    go_enter Tryz.func56, Tryz.ntmps56
    go_wp2_with fail
    refine h1.mono ?_
    rintro e w1 ⟨rfl, rfl⟩
    go_wp2
    go_ret
    exact ⟨rfl, rfl⟩
  · have h1 := hn.out .box
    simp only [Ty.id] at h1 ⊢
    have m1 := as_box_1
    go_enter Tryz.func56, Tryz.ntmps56
    go_wp2_with fail
    refine h1.mono ?_
    rintro e w1 ⟨rfl, rfl⟩
    go_wp2
    go_ret
    exact ⟨rfl, rfl⟩
  · have h1 := hn.out .scroll
    simp only [Ty.id] at h1 ⊢
    have m1 := as_scroll_1
    go_enter Tryz.func56, Tryz.ntmps56
    go_wp2_with fail
    refine h1.mono ?_
    rintro e w1 ⟨rfl, rfl⟩
    go_wp2
    go_ret
    exact ⟨rfl, rfl⟩
  · simp only [Ty.id]
    have m1 := as_canvas_1
    go_enter Tryz.func56, Tryz.ntmps56
    go_wp2
    go_ret
    exact ⟨rfl, rfl⟩
  · have h1 := hn.out .gap
    simp only [Ty.id] at h1 ⊢
    have m1 := as_gap_1
    go_enter Tryz.func56, Tryz.ntmps56
    go_wp2_with fail
    refine h1.mono ?_
    rintro e w1 ⟨rfl, rfl⟩
    go_wp2
    go_ret
    exact ⟨rfl, rfl⟩

set_option maxHeartbeats 1000000 in
theorem mes_hollow (t : Ty) (w : World) :
    Calls Tryz.prog 56 #[.iface t.id (.pointer none)] w fun e w' => e = .returned .nilIface ∧ w' = w := by
  have hn : Hid (∀ t : Ty, Calls Tryz.prog 18 #[.iface t.id (.pointer none)] w fun e w' => e = .returned (.bool true) ∧ w' = w) := fun t => none_hollow t w
  cases t
  · have h1 := hn.out .label
    simp only [Ty.id] at h1 ⊢
    have m1 := as_label_1
    go_enter Tryz.func56, Tryz.ntmps56
    go_wp2_with fail
    refine h1.mono ?_
    rintro e w1 ⟨rfl, rfl⟩
    go_wp2
    go_ret
    exact ⟨rfl, rfl⟩
  · have h1 := hn.out .button
    simp only [Ty.id] at h1 ⊢
    have m1 := as_button_1
    go_enter Tryz.func56, Tryz.ntmps56
    go_wp2_with fail
    refine h1.mono ?_
    rintro e w1 ⟨rfl, rfl⟩
    go_wp2
    go_ret
    exact ⟨rfl, rfl⟩
  · have h1 := hn.out .field
    simp only [Ty.id] at h1 ⊢
    have m1 := as_field_1
    go_enter Tryz.func56, Tryz.ntmps56
    go_wp2_with fail
    refine h1.mono ?_
    rintro e w1 ⟨rfl, rfl⟩
    go_wp2
    go_ret
    exact ⟨rfl, rfl⟩
  · have h1 := hn.out .box
    simp only [Ty.id] at h1 ⊢
    have m1 := as_box_1
    go_enter Tryz.func56, Tryz.ntmps56
    go_wp2_with fail
    refine h1.mono ?_
    rintro e w1 ⟨rfl, rfl⟩
    go_wp2
    go_ret
    exact ⟨rfl, rfl⟩
  · have h1 := hn.out .scroll
    simp only [Ty.id] at h1 ⊢
    have m1 := as_scroll_1
    go_enter Tryz.func56, Tryz.ntmps56
    go_wp2_with fail
    refine h1.mono ?_
    rintro e w1 ⟨rfl, rfl⟩
    go_wp2
    go_ret
    exact ⟨rfl, rfl⟩
  · simp only [Ty.id]
    have m1 := as_canvas_1
    go_enter Tryz.func56, Tryz.ntmps56
    go_wp2
    go_ret
    exact ⟨rfl, rfl⟩
  · have h1 := hn.out .gap
    simp only [Ty.id] at h1 ⊢
    have m1 := as_gap_1
    go_enter Tryz.func56, Tryz.ntmps56
    go_wp2_with fail
    refine h1.mono ?_
    rintro e w1 ⟨rfl, rfl⟩
    go_wp2
    go_ret
    exact ⟨rfl, rfl⟩

theorem mes_nil (w : World) :
    Calls Tryz.prog 56 #[.nilIface] w fun e w' => e = .returned .nilIface ∧ w' = w := by
  have m1 := as_nil_1
  go_enter Tryz.func56, Tryz.ntmps56
  go_wp2
  go_ret
  exact ⟨rfl, rfl⟩

set_option maxHeartbeats 1000000 in
theorem pai_made (t : Ty) (b k : Nat) (w : World) (h0 : w.cell? ⟨b, 0, none⟩ = some (.int .u8 (k : Nat))) (hk : kindB k = true) :
    Calls Tryz.prog 63 #[.iface t.id (.pointer (some ⟨b, 0, none⟩))] w fun e w' => e = .returned (bif t.pai then .iface t.id (.pointer (some ⟨b, 0, none⟩)) else .nilIface) ∧ w' = w := by
  have hn : Hid (∀ t : Ty, Calls Tryz.prog 18 #[.iface t.id (.pointer (some ⟨b, 0, none⟩))] w fun e w' => e = .returned (.bool false) ∧ w' = w) := fun t => none_made t b k w h0 hk
  clear h0 hk
  cases t
  · have h1 := hn.out .label
    simp only [Ty.id] at h1 ⊢
    have m1 := as_label_2
    go_enter Tryz.func63, Tryz.ntmps63
    go_wp2_with fail
    refine h1.mono ?_
    rintro e w1 ⟨rfl, rfl⟩
    go_wp2
    go_ret
    exact ⟨rfl, rfl⟩
  · have h1 := hn.out .button
    simp only [Ty.id] at h1 ⊢
    have m1 := as_button_2
    go_enter Tryz.func63, Tryz.ntmps63
    go_wp2_with fail
    refine h1.mono ?_
    rintro e w1 ⟨rfl, rfl⟩
    go_wp2
    go_ret
    exact ⟨rfl, rfl⟩
  · have h1 := hn.out .field
    simp only [Ty.id] at h1 ⊢
    have m1 := as_field_2
    go_enter Tryz.func63, Tryz.ntmps63
    go_wp2_with fail
    refine h1.mono ?_
    rintro e w1 ⟨rfl, rfl⟩
    go_wp2
    go_ret
    exact ⟨rfl, rfl⟩
  · simp only [Ty.id]
    have m1 := as_box_2
    go_enter Tryz.func63, Tryz.ntmps63
    go_wp2
    go_ret
    exact ⟨rfl, rfl⟩
  · have h1 := hn.out .scroll
    simp only [Ty.id] at h1 ⊢
    have m1 := as_scroll_2
    go_enter Tryz.func63, Tryz.ntmps63
    go_wp2_with fail
    refine h1.mono ?_
    rintro e w1 ⟨rfl, rfl⟩
    go_wp2
    go_ret
    exact ⟨rfl, rfl⟩
  · have h1 := hn.out .canvas
    simp only [Ty.id] at h1 ⊢
    have m1 := as_canvas_2
    go_enter Tryz.func63, Tryz.ntmps63
    go_wp2_with fail
    refine h1.mono ?_
    rintro e w1 ⟨rfl, rfl⟩
    go_wp2
    go_ret
    exact ⟨rfl, rfl⟩
  · simp only [Ty.id]
    have m1 := as_gap_2
    go_enter Tryz.func63, Tryz.ntmps63
    go_wp2
    go_ret
    exact ⟨rfl, rfl⟩

set_option maxHeartbeats 1000000 in
theorem pai_hollow (t : Ty) (w : World) :
    Calls Tryz.prog 63 #[.iface t.id (.pointer none)] w fun e w' => e = .returned .nilIface ∧ w' = w := by
  have hn : Hid (∀ t : Ty, Calls Tryz.prog 18 #[.iface t.id (.pointer none)] w fun e w' => e = .returned (.bool true) ∧ w' = w) := fun t => none_hollow t w
  cases t
  · have h1 := hn.out .label
    simp only [Ty.id] at h1 ⊢
    have m1 := as_label_2
    go_enter Tryz.func63, Tryz.ntmps63
    go_wp2_with fail
    refine h1.mono ?_
    rintro e w1 ⟨rfl, rfl⟩
    go_wp2
    go_ret
    exact ⟨rfl, rfl⟩
  · have h1 := hn.out .button
    simp only [Ty.id] at h1 ⊢
    have m1 := as_button_2
    go_enter Tryz.func63, Tryz.ntmps63
    go_wp2_with fail
    refine h1.mono ?_
    rintro e w1 ⟨rfl, rfl⟩
    go_wp2
    go_ret
    exact ⟨rfl, rfl⟩
  · have h1 := hn.out .field
    simp only [Ty.id] at h1 ⊢
    have m1 := as_field_2
    go_enter Tryz.func63, Tryz.ntmps63
    go_wp2_with fail
    refine h1.mono ?_
    rintro e w1 ⟨rfl, rfl⟩
    go_wp2
    go_ret
    exact ⟨rfl, rfl⟩
  · simp only [Ty.id]
    have m1 := as_box_2
    go_enter Tryz.func63, Tryz.ntmps63
    go_wp2
    go_ret
    exact ⟨rfl, rfl⟩
  · have h1 := hn.out .scroll
    simp only [Ty.id] at h1 ⊢
    have m1 := as_scroll_2
    go_enter Tryz.func63, Tryz.ntmps63
    go_wp2_with fail
    refine h1.mono ?_
    rintro e w1 ⟨rfl, rfl⟩
    go_wp2
    go_ret
    exact ⟨rfl, rfl⟩
  · have h1 := hn.out .canvas
    simp only [Ty.id] at h1 ⊢
    have m1 := as_canvas_2
    go_enter Tryz.func63, Tryz.ntmps63
    go_wp2_with fail
    refine h1.mono ?_
    rintro e w1 ⟨rfl, rfl⟩
    go_wp2
    go_ret
    exact ⟨rfl, rfl⟩
  · simp only [Ty.id]
    have m1 := as_gap_2
    go_enter Tryz.func63, Tryz.ntmps63
    go_wp2
    go_ret
    exact ⟨rfl, rfl⟩

theorem pai_nil (w : World) :
    Calls Tryz.prog 63 #[.nilIface] w fun e w' => e = .returned .nilIface ∧ w' = w := by
  have m1 := as_nil_2
  go_enter Tryz.func63, Tryz.ntmps63
  go_wp2
  go_ret
  exact ⟨rfl, rfl⟩

set_option maxHeartbeats 1000000 in
theorem foc_made (t : Ty) (b k : Nat) (w : World) (h0 : w.cell? ⟨b, 0, none⟩ = some (.int .u8 (k : Nat))) (hk : kindB k = true) :
    Calls Tryz.prog 44 #[.iface t.id (.pointer (some ⟨b, 0, none⟩))] w fun e w' => e = .returned (bif t.foc then .iface t.id (.pointer (some ⟨b, 0, none⟩)) else .nilIface) ∧ w' = w := by
  have hn : Hid (∀ t : Ty, Calls Tryz.prog 18 #[.iface t.id (.pointer (some ⟨b, 0, none⟩))] w fun e w' => e = .returned (.bool false) ∧ w' = w) := fun t => none_made t b k w h0 hk
  clear h0 hk
  cases t
  · simp only [Ty.id]
    have m1 := as_label_4
    go_enter Tryz.func44, Tryz.ntmps44
    go_wp2
    go_ret
    exact ⟨rfl, rfl⟩
  · have h1 := hn.out .button
    simp only [Ty.id] at h1 ⊢
    have m1 := as_button_4
    go_enter Tryz.func44, Tryz.ntmps44
    go_wp2_with fail
    refine h1.mono ?_
    rintro e w1 ⟨rfl, rfl⟩
    go_wp2
    go_ret
    exact ⟨rfl, rfl⟩
  · have h1 := hn.out .field
    simp only [Ty.id] at h1 ⊢
    have m1 := as_field_4
    go_enter Tryz.func44, Tryz.ntmps44
    go_wp2_with fail
    refine h1.mono ?_
    rintro e w1 ⟨rfl, rfl⟩
    go_wp2
    go_ret
    exact ⟨rfl, rfl⟩
  · simp only [Ty.id]
    have m1 := as_box_4
    go_enter Tryz.func44, Tryz.ntmps44
    go_wp2
    go_ret
    exact ⟨rfl, rfl⟩
  · have h1 := hn.out .scroll
    simp only [Ty.id] at h1 ⊢
    have m1 := as_scroll_4
    go_enter Tryz.func44, Tryz.ntmps44
    go_wp2_with fail
    refine h1.mono ?_
    rintro e w1 ⟨rfl, rfl⟩
    go_wp2
    go_ret
    exact ⟨rfl, rfl⟩
  · simp only [Ty.id]
    have m1 := as_canvas_4
    go_enter Tryz.func44, Tryz.ntmps44
    go_wp2
    go_ret
    exact ⟨rfl, rfl⟩
  · simp only [Ty.id]
    have m1 := as_gap_4
    go_enter Tryz.func44, Tryz.ntmps44
    go_wp2
    go_ret
    exact ⟨rfl, rfl⟩

set_option maxHeartbeats 1000000 in
theorem foc_hollow (t : Ty) (w : World) :
    Calls Tryz.prog 44 #[.iface t.id (.pointer none)] w fun e w' => e = .returned .nilIface ∧ w' = w := by
  have hn : Hid (∀ t : Ty, Calls Tryz.prog 18 #[.iface t.id (.pointer none)] w fun e w' => e = .returned (.bool true) ∧ w' = w) := fun t => none_hollow t w
  cases t
  · simp only [Ty.id]
    have m1 := as_label_4
    go_enter Tryz.func44, Tryz.ntmps44
    go_wp2
    go_ret
    exact ⟨rfl, rfl⟩
  · have h1 := hn.out .button
    simp only [Ty.id] at h1 ⊢
    have m1 := as_button_4
    go_enter Tryz.func44, Tryz.ntmps44
    go_wp2_with fail
    refine h1.mono ?_
    rintro e w1 ⟨rfl, rfl⟩
    go_wp2
    go_ret
    exact ⟨rfl, rfl⟩
  · have h1 := hn.out .field
    simp only [Ty.id] at h1 ⊢
    have m1 := as_field_4
    go_enter Tryz.func44, Tryz.ntmps44
    go_wp2_with fail
    refine h1.mono ?_
    rintro e w1 ⟨rfl, rfl⟩
    go_wp2
    go_ret
    exact ⟨rfl, rfl⟩
  · simp only [Ty.id]
    have m1 := as_box_4
    go_enter Tryz.func44, Tryz.ntmps44
    go_wp2
    go_ret
    exact ⟨rfl, rfl⟩
  · have h1 := hn.out .scroll
    simp only [Ty.id] at h1 ⊢
    have m1 := as_scroll_4
    go_enter Tryz.func44, Tryz.ntmps44
    go_wp2_with fail
    refine h1.mono ?_
    rintro e w1 ⟨rfl, rfl⟩
    go_wp2
    go_ret
    exact ⟨rfl, rfl⟩
  · simp only [Ty.id]
    have m1 := as_canvas_4
    go_enter Tryz.func44, Tryz.ntmps44
    go_wp2
    go_ret
    exact ⟨rfl, rfl⟩
  · simp only [Ty.id]
    have m1 := as_gap_4
    go_enter Tryz.func44, Tryz.ntmps44
    go_wp2
    go_ret
    exact ⟨rfl, rfl⟩

theorem foc_nil (w : World) :
    Calls Tryz.prog 44 #[.nilIface] w fun e w' => e = .returned .nilIface ∧ w' = w := by
  have m1 := as_nil_4
  go_enter Tryz.func44, Tryz.ntmps44
  go_wp2
  go_ret
  exact ⟨rfl, rfl⟩

set_option maxHeartbeats 1000000 in
theorem scr_made (t : Ty) (b k : Nat) (w : World) (h0 : w.cell? ⟨b, 0, none⟩ = some (.int .u8 (k : Nat))) (hk : kindB k = true) :
    Calls Tryz.prog 46 #[.iface t.id (.pointer (some ⟨b, 0, none⟩))] w fun e w' => e = .returned (bif t.scr then .iface t.id (.pointer (some ⟨b, 0, none⟩)) else .nilIface) ∧ w' = w := by
  have hn : Hid (∀ t : Ty, Calls Tryz.prog 18 #[.iface t.id (.pointer (some ⟨b, 0, none⟩))] w fun e w' => e = .returned (.bool false) ∧ w' = w) := fun t => none_made t b k w h0 hk
  clear h0 hk
  cases t
  · simp only [Ty.id]
    have m1 := as_label_8
    go_enter Tryz.func46, Tryz.ntmps46
    go_wp2
    go_ret
    exact ⟨rfl, rfl⟩
  · simp only [Ty.id]
    have m1 := as_button_8
    go_enter Tryz.func46, Tryz.ntmps46
    go_wp2
    go_ret
    exact ⟨rfl, rfl⟩
  · simp only [Ty.id]
    have m1 := as_field_8
    go_enter Tryz.func46, Tryz.ntmps46
    go_wp2
    go_ret
    exact ⟨rfl, rfl⟩
  · simp only [Ty.id]
    have m1 := as_box_8
    go_enter Tryz.func46, Tryz.ntmps46
    go_wp2
    go_ret
    exact ⟨rfl, rfl⟩
  · have h1 := hn.out .scroll
    simp only [Ty.id] at h1 ⊢
    have m1 := as_scroll_8
    go_enter Tryz.func46, Tryz.ntmps46
    go_wp2_with fail
    refine h1.mono ?_
    rintro e w1 ⟨rfl, rfl⟩
    go_wp2
    go_ret
    exact ⟨rfl, rfl⟩
  · simp only [Ty.id]
    have m1 := as_canvas_8
    go_enter Tryz.func46, Tryz.ntmps46
    go_wp2
    go_ret
    exact ⟨rfl, rfl⟩
  · simp only [Ty.id]
    have m1 := as_gap_8
    go_enter Tryz.func46, Tryz.ntmps46
    go_wp2
    go_ret
    exact ⟨rfl, rfl⟩

set_option maxHeartbeats 1000000 in
theorem scr_hollow (t : Ty) (w : World) :
    Calls Tryz.prog 46 #[.iface t.id (.pointer none)] w fun e w' => e = .returned .nilIface ∧ w' = w := by
  have hn : Hid (∀ t : Ty, Calls Tryz.prog 18 #[.iface t.id (.pointer none)] w fun e w' => e = .returned (.bool true) ∧ w' = w) := fun t => none_hollow t w
  cases t
  · simp only [Ty.id]
    have m1 := as_label_8
    go_enter Tryz.func46, Tryz.ntmps46
    go_wp2
    go_ret
    exact ⟨rfl, rfl⟩
  · simp only [Ty.id]
    have m1 := as_button_8
    go_enter Tryz.func46, Tryz.ntmps46
    go_wp2
    go_ret
    exact ⟨rfl, rfl⟩
  · simp only [Ty.id]
    have m1 := as_field_8
    go_enter Tryz.func46, Tryz.ntmps46
    go_wp2
    go_ret
    exact ⟨rfl, rfl⟩
  · simp only [Ty.id]
    have m1 := as_box_8
    go_enter Tryz.func46, Tryz.ntmps46
    go_wp2
    go_ret
    exact ⟨rfl, rfl⟩
  · have h1 := hn.out .scroll
    simp only [Ty.id] at h1 ⊢
    have m1 := as_scroll_8
    go_enter Tryz.func46, Tryz.ntmps46
    go_wp2_with fail
    refine h1.mono ?_
    rintro e w1 ⟨rfl, rfl⟩
    go_wp2
    go_ret
    exact ⟨rfl, rfl⟩
  · simp only [Ty.id]
    have m1 := as_canvas_8
    go_enter Tryz.func46, Tryz.ntmps46
    go_wp2
    go_ret
    exact ⟨rfl, rfl⟩
  · simp only [Ty.id]
    have m1 := as_gap_8
    go_enter Tryz.func46, Tryz.ntmps46
    go_wp2
    go_ret
    exact ⟨rfl, rfl⟩

theorem scr_nil (w : World) :
    Calls Tryz.prog 46 #[.nilIface] w fun e w' => e = .returned .nilIface ∧ w' = w := by
  have m1 := as_nil_8
  go_enter Tryz.func46, Tryz.ntmps46
  go_wp2
  go_ret
  exact ⟨rfl, rfl⟩

set_option maxHeartbeats 1000000 in
theorem acc_made (t : Ty) (b k : Nat) (w : World) (h0 : w.cell? ⟨b, 0, none⟩ = some (.int .u8 (k : Nat))) (hk : kindB k = true) :
    Calls Tryz.prog 48 #[.iface t.id (.pointer (some ⟨b, 0, none⟩))] w fun e w' => e = .returned (bif t.acc then .iface t.id (.pointer (some ⟨b, 0, none⟩)) else .nilIface) ∧ w' = w := by
  have hn : Hid (∀ t : Ty, Calls Tryz.prog 18 #[.iface t.id (.pointer (some ⟨b, 0, none⟩))] w fun e w' => e = .returned (.bool false) ∧ w' = w) := fun t => none_made t b k w h0 hk
  clear h0 hk
  cases t
  · simp only [Ty.id]
    have m1 := as_label_16
    go_enter Tryz.func48, Tryz.ntmps48
    go_wp2
    go_ret
    exact ⟨rfl, rfl⟩
  · simp only [Ty.id]
    have m1 := as_button_16
    go_enter Tryz.func48, Tryz.ntmps48
    go_wp2
    go_ret
    exact ⟨rfl, rfl⟩
  · have h1 := hn.out .field
    simp only [Ty.id] at h1 ⊢
    have m1 := as_field_16
    go_enter Tryz.func48, Tryz.ntmps48
    go_wp2_with fail
    refine h1.mono ?_
    rintro e w1 ⟨rfl, rfl⟩
    go_wp2
    go_ret
    exact ⟨rfl, rfl⟩
  · simp only [Ty.id]
    have m1 := as_box_16
    go_enter Tryz.func48, Tryz.ntmps48
    go_wp2
    go_ret
    exact ⟨rfl, rfl⟩
  · simp only [Ty.id]
    have m1 := as_scroll_16
    go_enter Tryz.func48, Tryz.ntmps48
    go_wp2
    go_ret
    exact ⟨rfl, rfl⟩
  · simp only [Ty.id]
    have m1 := as_canvas_16
    go_enter Tryz.func48, Tryz.ntmps48
    go_wp2
    go_ret
    exact ⟨rfl, rfl⟩
  · simp only [Ty.id]
    have m1 := as_gap_16
    go_enter Tryz.func48, Tryz.ntmps48
    go_wp2
    go_ret
    exact ⟨rfl, rfl⟩

set_option maxHeartbeats 1000000 in
theorem acc_hollow (t : Ty) (w : World) :
    Calls Tryz.prog 48 #[.iface t.id (.pointer none)] w fun e w' => e = .returned .nilIface ∧ w' = w := by
  have hn : Hid (∀ t : Ty, Calls Tryz.prog 18 #[.iface t.id (.pointer none)] w fun e w' => e = .returned (.bool true) ∧ w' = w) := fun t => none_hollow t w
  cases t
  · simp only [Ty.id]
    have m1 := as_label_16
    go_enter Tryz.func48, Tryz.ntmps48
    go_wp2
    go_ret
    exact ⟨rfl, rfl⟩
  · simp only [Ty.id]
    have m1 := as_button_16
    go_enter Tryz.func48, Tryz.ntmps48
    go_wp2
    go_ret
    exact ⟨rfl, rfl⟩
  · have h1 := hn.out .field
    simp only [Ty.id] at h1 ⊢
    have m1 := as_field_16
    go_enter Tryz.func48, Tryz.ntmps48
    go_wp2_with fail
    refine h1.mono ?_
    rintro e w1 ⟨rfl, rfl⟩
    go_wp2
    go_ret
    exact ⟨rfl, rfl⟩
  · simp only [Ty.id]
    have m1 := as_box_16
    go_enter Tryz.func48, Tryz.ntmps48
    go_wp2
    go_ret
    exact ⟨rfl, rfl⟩
  · simp only [Ty.id]
    have m1 := as_scroll_16
    go_enter Tryz.func48, Tryz.ntmps48
    go_wp2
    go_ret
    exact ⟨rfl, rfl⟩
  · simp only [Ty.id]
    have m1 := as_canvas_16
    go_enter Tryz.func48, Tryz.ntmps48
    go_wp2
    go_ret
    exact ⟨rfl, rfl⟩
  · simp only [Ty.id]
    have m1 := as_gap_16
    go_enter Tryz.func48, Tryz.ntmps48
    go_wp2
    go_ret
    exact ⟨rfl, rfl⟩

theorem acc_nil (w : World) :
    Calls Tryz.prog 48 #[.nilIface] w fun e w' => e = .returned .nilIface ∧ w' = w := by
  have m1 := as_nil_16
  go_enter Tryz.func48, Tryz.ntmps48
  go_wp2
  go_ret
  exact ⟨rfl, rfl⟩

set_option maxHeartbeats 1000000 in
theorem hol_made (t : Ty) (b k : Nat) (w : World) (h0 : w.cell? ⟨b, 0, none⟩ = some (.int .u8 (k : Nat))) (hk : kindB k = true) :
    Calls Tryz.prog 51 #[.iface t.id (.pointer (some ⟨b, 0, none⟩))] w fun e w' => e = .returned (bif t.hol then .iface t.id (.pointer (some ⟨b, 0, none⟩)) else .nilIface) ∧ w' = w := by
  have hn : Hid (∀ t : Ty, Calls Tryz.prog 18 #[.iface t.id (.pointer (some ⟨b, 0, none⟩))] w fun e w' => e = .returned (.bool false) ∧ w' = w) := fun t => none_made t b k w h0 hk
  clear h0 hk
  cases t
  · simp only [Ty.id]
    have m1 := as_label_32
    go_enter Tryz.func51, Tryz.ntmps51
    go_wp2
    go_ret
    exact ⟨rfl, rfl⟩
  · simp only [Ty.id]
    have m1 := as_button_32
    go_enter Tryz.func51, Tryz.ntmps51
    go_wp2
    go_ret
    exact ⟨rfl, rfl⟩
  · simp only [Ty.id]
    have m1 := as_field_32
    go_enter Tryz.func51, Tryz.ntmps51
    go_wp2
    go_ret
    exact ⟨rfl, rfl⟩
  · have h1 := hn.out .box
    simp only [Ty.id] at h1 ⊢
    have m1 := as_box_32
    go_enter Tryz.func51, Tryz.ntmps51
    go_wp2_with fail
    refine h1.mono ?_
    rintro e w1 ⟨rfl, rfl⟩
    go_wp2
    go_ret
    exact ⟨rfl, rfl⟩
  · have h1 := hn.out .scroll
    simp only [Ty.id] at h1 ⊢
    have m1 := as_scroll_32
    go_enter Tryz.func51, Tryz.ntmps51
    go_wp2_with fail
    refine h1.mono ?_
    rintro e w1 ⟨rfl, rfl⟩
    go_wp2
    go_ret
    exact ⟨rfl, rfl⟩
  · simp only [Ty.id]
    have m1 := as_canvas_32
    go_enter Tryz.func51, Tryz.ntmps51
    go_wp2
    go_ret
    exact ⟨rfl, rfl⟩
  · simp only [Ty.id]
    have m1 := as_gap_32
    go_enter Tryz.func51, Tryz.ntmps51
    go_wp2
    go_ret
    exact ⟨rfl, rfl⟩

set_option maxHeartbeats 1000000 in
theorem hol_hollow (t : Ty) (w : World) :
    Calls Tryz.prog 51 #[.iface t.id (.pointer none)] w fun e w' => e = .returned .nilIface ∧ w' = w := by
  have hn : Hid (∀ t : Ty, Calls Tryz.prog 18 #[.iface t.id (.pointer none)] w fun e w' => e = .returned (.bool true) ∧ w' = w) := fun t => none_hollow t w
  cases t
  · simp only [Ty.id]
    have m1 := as_label_32
    go_enter Tryz.func51, Tryz.ntmps51
    go_wp2
    go_ret
    exact ⟨rfl, rfl⟩
  · simp only [Ty.id]
    have m1 := as_button_32
    go_enter Tryz.func51, Tryz.ntmps51
    go_wp2
    go_ret
    exact ⟨rfl, rfl⟩
  · simp only [Ty.id]
    have m1 := as_field_32
    go_enter Tryz.func51, Tryz.ntmps51
    go_wp2
    go_ret
    exact ⟨rfl, rfl⟩
  · have h1 := hn.out .box
    simp only [Ty.id] at h1 ⊢
    have m1 := as_box_32
    go_enter Tryz.func51, Tryz.ntmps51
    go_wp2_with fail
    refine h1.mono ?_
    rintro e w1 ⟨rfl, rfl⟩
    go_wp2
    go_ret
    exact ⟨rfl, rfl⟩
  · have h1 := hn.out .scroll
    simp only [Ty.id] at h1 ⊢
    have m1 := as_scroll_32
    go_enter Tryz.func51, Tryz.ntmps51
    go_wp2_with fail
    refine h1.mono ?_
    rintro e w1 ⟨rfl, rfl⟩
    go_wp2
    go_ret
    exact ⟨rfl, rfl⟩
  · simp only [Ty.id]
    have m1 := as_canvas_32
    go_enter Tryz.func51, Tryz.ntmps51
    go_wp2
    go_ret
    exact ⟨rfl, rfl⟩
  · simp only [Ty.id]
    have m1 := as_gap_32
    go_enter Tryz.func51, Tryz.ntmps51
    go_wp2
    go_ret
    exact ⟨rfl, rfl⟩

theorem hol_nil (w : World) :
    Calls Tryz.prog 51 #[.nilIface] w fun e w' => e = .returned .nilIface ∧ w' = w := by
  have m1 := as_nil_32
  go_enter Tryz.func51, Tryz.ntmps51
  go_wp2
  go_ret
  exact ⟨rfl, rfl⟩

end Go.Proofs.YtdbafcldpleogaaGreatDoor
