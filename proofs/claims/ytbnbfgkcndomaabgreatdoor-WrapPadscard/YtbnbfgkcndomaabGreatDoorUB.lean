/-
  Kind and Name of parts; None; the parts as such that can.
-/
import Derived.Test.YtbnbfgkcndomaabGreatDoorUA
namespace Go.Proofs.YtbnbfgkcndomaabGreatDoor
open Go.RowKit

def Ty.mes : Ty → Bool
  | .label => true | .button => true | .field => true | .box => true | .scroll => true | .canvas => false | .gap => true
def Ty.pai : Ty → Bool
  | .label => true | .button => true | .field => true | .box => false | .scroll => true | .canvas => true | .gap => false
def Ty.foc : Ty → Bool
  | .label => false | .button => true | .field => true | .box => false | .scroll => true | .canvas => false | .gap => false
def Ty.scr : Ty → Bool
  | .label => false | .button => false | .field => false | .box => false | .scroll => true | .canvas => false | .gap => false
def Ty.acc : Ty → Bool
  | .label => false | .button => false | .field => true | .box => false | .scroll => false | .canvas => false | .gap => false
def Ty.hol : Ty → Bool
  | .label => false | .button => false | .field => false | .box => true | .scroll => true | .canvas => false | .gap => false

theorem me_label_Kind (f : Nat) (x : Option Addr) (w : World) : (method (f + 1) 183 (.pointer x) "Kind").run Tryz.prog w = .ok (203, .pointer x) w := by kernel_rfl
theorem me_label_Name (f : Nat) (x : Option Addr) (w : World) : (method (f + 1) 183 (.pointer x) "Name").run Tryz.prog w = .ok (205, .pointer x) w := by kernel_rfl
theorem me_button_Kind (f : Nat) (x : Option Addr) (w : World) : (method (f + 1) 184 (.pointer x) "Kind").run Tryz.prog w = .ok (218, .pointer x) w := by kernel_rfl
theorem me_button_Name (f : Nat) (x : Option Addr) (w : World) : (method (f + 1) 184 (.pointer x) "Name").run Tryz.prog w = .ok (219, .pointer x) w := by kernel_rfl
theorem me_field_Kind (f : Nat) (x : Option Addr) (w : World) : (method (f + 1) 185 (.pointer x) "Kind").run Tryz.prog w = .ok (221, .pointer x) w := by kernel_rfl
theorem me_field_Name (f : Nat) (x : Option Addr) (w : World) : (method (f + 1) 185 (.pointer x) "Name").run Tryz.prog w = .ok (222, .pointer x) w := by kernel_rfl
theorem me_box_Kind (f : Nat) (x : Option Addr) (w : World) : (method (f + 1) 186 (.pointer x) "Kind").run Tryz.prog w = .ok (224, .pointer x) w := by kernel_rfl
theorem me_box_Name (f : Nat) (x : Option Addr) (w : World) : (method (f + 1) 186 (.pointer x) "Name").run Tryz.prog w = .ok (225, .pointer x) w := by kernel_rfl
theorem me_scroll_Kind (f : Nat) (x : Option Addr) (w : World) : (method (f + 1) 187 (.pointer x) "Kind").run Tryz.prog w = .ok (227, .pointer x) w := by kernel_rfl
theorem me_scroll_Name (f : Nat) (x : Option Addr) (w : World) : (method (f + 1) 187 (.pointer x) "Name").run Tryz.prog w = .ok (228, .pointer x) w := by kernel_rfl
theorem me_canvas_Kind (f : Nat) (x : Option Addr) (w : World) : (method (f + 1) 188 (.pointer x) "Kind").run Tryz.prog w = .ok (230, .pointer x) w := by kernel_rfl
theorem me_canvas_Name (f : Nat) (x : Option Addr) (w : World) : (method (f + 1) 188 (.pointer x) "Name").run Tryz.prog w = .ok (231, .pointer x) w := by kernel_rfl
theorem me_gap_Kind (f : Nat) (x : Option Addr) (w : World) : (method (f + 1) 189 (.pointer x) "Kind").run Tryz.prog w = .ok (232, .pointer x) w := by kernel_rfl
theorem me_gap_Name (f : Nat) (x : Option Addr) (w : World) : (method (f + 1) 189 (.pointer x) "Name").run Tryz.prog w = .ok (233, .pointer x) w := by kernel_rfl

set_option maxHeartbeats 1000000 in
theorem none_hollow (t : Ty) (w : World) :
    Calls Tryz.prog 24 #[.iface t.id (.pointer none)] w fun e w' => e = .returned (.bool true) ∧ w' = w := by
  cases t
  · simp only [Ty.id]
    have m1 := me_label_Kind
    go_enter Tryz.func24, Tryz.ntmps24
    go_wp2
    go_ret
    exact ⟨rfl, rfl⟩
  · simp only [Ty.id]
    have m1 := me_button_Kind
    go_enter Tryz.func24, Tryz.ntmps24
    go_wp2
    go_ret
    exact ⟨rfl, rfl⟩
  · simp only [Ty.id]
    have m1 := me_field_Kind
    go_enter Tryz.func24, Tryz.ntmps24
    go_wp2
    go_ret
    exact ⟨rfl, rfl⟩
  · simp only [Ty.id]
    have m1 := me_box_Kind
    go_enter Tryz.func24, Tryz.ntmps24
    go_wp2
    go_ret
    exact ⟨rfl, rfl⟩
  · simp only [Ty.id]
    have m1 := me_scroll_Kind
    go_enter Tryz.func24, Tryz.ntmps24
    go_wp2
    go_ret
    exact ⟨rfl, rfl⟩
  · simp only [Ty.id]
    have m1 := me_canvas_Kind
    go_enter Tryz.func24, Tryz.ntmps24
    go_wp2
    go_ret
    exact ⟨rfl, rfl⟩
  · simp only [Ty.id]
    have m1 := me_gap_Kind
    go_enter Tryz.func24, Tryz.ntmps24
    go_wp2
    go_ret
    exact ⟨rfl, rfl⟩

set_option maxHeartbeats 1000000 in
theorem none_made (t : Ty) (b k : Nat) (w : World) (h0 : w.cell? ⟨b, 0, none⟩ = some (.int .u8 (k : Nat))) (hk : kindB k = true) :
    Calls Tryz.prog 24 #[.iface t.id (.pointer (some ⟨b, 0, none⟩))] w fun e w' => e = .returned (.bool false) ∧ w' = w := by
  have hq : ((k : Int) == 0) = false := by
    have := kind_cases hk
    exact beq_eq_false_iff_ne.2 (by omega)
  clear hk
  cases t
  · simp only [Ty.id]
    have m1 := me_label_Kind
    go_enter Tryz.func24, Tryz.ntmps24
    go_wp2
    go_ret
    exact ⟨rfl, rfl⟩
  · simp only [Ty.id]
    have m1 := me_button_Kind
    go_enter Tryz.func24, Tryz.ntmps24
    go_wp2
    go_ret
    exact ⟨rfl, rfl⟩
  · simp only [Ty.id]
    have m1 := me_field_Kind
    go_enter Tryz.func24, Tryz.ntmps24
    go_wp2
    go_ret
    exact ⟨rfl, rfl⟩
  · simp only [Ty.id]
    have m1 := me_box_Kind
    go_enter Tryz.func24, Tryz.ntmps24
    go_wp2
    go_ret
    exact ⟨rfl, rfl⟩
  · simp only [Ty.id]
    have m1 := me_scroll_Kind
    go_enter Tryz.func24, Tryz.ntmps24
    go_wp2
    go_ret
    exact ⟨rfl, rfl⟩
  · simp only [Ty.id]
    have m1 := me_canvas_Kind
    go_enter Tryz.func24, Tryz.ntmps24
    go_wp2
    go_ret
    exact ⟨rfl, rfl⟩
  · simp only [Ty.id]
    have m1 := me_gap_Kind
    go_enter Tryz.func24, Tryz.ntmps24
    go_wp2
    go_ret
    exact ⟨rfl, rfl⟩

theorem none_nil (w : World) :
    Calls Tryz.prog 24 #[.nilIface] w fun e w' => e = .returned (.bool true) ∧ w' = w := by
  go_enter Tryz.func24, Tryz.ntmps24
  go_wp2
  go_ret
  exact ⟨rfl, rfl⟩

set_option maxHeartbeats 1000000 in
theorem mes_made (t : Ty) (b k : Nat) (w : World) (h0 : w.cell? ⟨b, 0, none⟩ = some (.int .u8 (k : Nat))) (hk : kindB k = true) :
    Calls Tryz.prog 70 #[.iface t.id (.pointer (some ⟨b, 0, none⟩))] w fun e w' => e = .returned (bif t.mes then .iface t.id (.pointer (some ⟨b, 0, none⟩)) else .nilIface) ∧ w' = w := by
  have hn : Hid (∀ t : Ty, Calls Tryz.prog 24 #[.iface t.id (.pointer (some ⟨b, 0, none⟩))] w fun e w' => e = .returned (.bool false) ∧ w' = w) := fun t => none_made t b k w h0 hk
  clear h0 hk
  cases t
  · have h1 := hn.out .label
    simp only [Ty.id] at h1 ⊢
    have m1 := as_label_1
    go_enter Tryz.func70, Tryz.ntmps70
    go_wp2_with fail
    refine h1.mono ?_
    rintro e w1 ⟨rfl, rfl⟩
    go_wp2
    go_ret
    exact ⟨rfl, rfl⟩
  · have h1 := hn.out .button
    simp only [Ty.id] at h1 ⊢
    have m1 := as_button_1
    go_enter Tryz.func70, Tryz.ntmps70
    go_wp2_with fail
    refine h1.mono ?_
    rintro e w1 ⟨rfl, rfl⟩
    go_wp2
    go_ret
    exact ⟨rfl, rfl⟩
  · have h1 := hn.out .field
    simp only [Ty.id] at h1 ⊢
    have m1 := as_field_1
    go_enter Tryz.func70, Tryz.ntmps70
    go_wp2_with fail
    refine h1.mono ?_
    rintro e w1 ⟨rfl, rfl⟩
    go_wp2
    go_ret
    exact ⟨rfl, rfl⟩
  · have h1 := hn.out .box
    simp only [Ty.id] at h1 ⊢
    have m1 := as_box_1
    go_enter Tryz.func70, Tryz.ntmps70
    go_wp2_with fail
    refine h1.mono ?_
    rintro e w1 ⟨rfl, rfl⟩
    go_wp2
    go_ret
    exact ⟨rfl, rfl⟩
  · have h1 := hn.out .scroll
    simp only [Ty.id] at h1 ⊢
    have m1 := as_scroll_1
    go_enter Tryz.func70, Tryz.ntmps70
    go_wp2_with fail
    refine h1.mono ?_
    rintro e w1 ⟨rfl, rfl⟩
    go_wp2
    go_ret
    exact ⟨rfl, rfl⟩
  · simp only [Ty.id]
    have m1 := as_canvas_1
    go_enter Tryz.func70, Tryz.ntmps70
    go_wp2
    go_ret
    exact ⟨rfl, rfl⟩
  · have h1 := hn.out .gap
    simp only [Ty.id] at h1 ⊢
    have m1 := as_gap_1
    go_enter Tryz.func70, Tryz.ntmps70
    go_wp2_with fail
    refine h1.mono ?_
    rintro e w1 ⟨rfl, rfl⟩
    go_wp2
    go_ret
    exact ⟨rfl, rfl⟩

set_option maxHeartbeats 1000000 in
theorem mes_hollow (t : Ty) (w : World) :
    Calls Tryz.prog 70 #[.iface t.id (.pointer none)] w fun e w' => e = .returned .nilIface ∧ w' = w := by
  have hn : Hid (∀ t : Ty, Calls Tryz.prog 24 #[.iface t.id (.pointer none)] w fun e w' => e = .returned (.bool true) ∧ w' = w) := fun t => none_hollow t w
  cases t
  · have h1 := hn.out .label
    simp only [Ty.id] at h1 ⊢
    have m1 := as_label_1
    go_enter Tryz.func70, Tryz.ntmps70
    go_wp2_with fail
    refine h1.mono ?_
    rintro e w1 ⟨rfl, rfl⟩
    go_wp2
    go_ret
    exact ⟨rfl, rfl⟩
  · have h1 := hn.out .button
    simp only [Ty.id] at h1 ⊢
    have m1 := as_button_1
    go_enter Tryz.func70, Tryz.ntmps70
    go_wp2_with fail
    refine h1.mono ?_
    rintro e w1 ⟨rfl, rfl⟩
    go_wp2
    go_ret
    exact ⟨rfl, rfl⟩
  · have h1 := hn.out .field
    simp only [Ty.id] at h1 ⊢
    have m1 := as_field_1
    go_enter Tryz.func70, Tryz.ntmps70
    go_wp2_with fail
    refine h1.mono ?_
    rintro e w1 ⟨rfl, rfl⟩
    go_wp2
    go_ret
    exact ⟨rfl, rfl⟩
  · have h1 := hn.out .box
    simp only [Ty.id] at h1 ⊢
    have m1 := as_box_1
    go_enter Tryz.func70, Tryz.ntmps70
    go_wp2_with fail
    refine h1.mono ?_
    rintro e w1 ⟨rfl, rfl⟩
    go_wp2
    go_ret
    exact ⟨rfl, rfl⟩
  · have h1 := hn.out .scroll
    simp only [Ty.id] at h1 ⊢
    have m1 := as_scroll_1
    go_enter Tryz.func70, Tryz.ntmps70
    go_wp2_with fail
    refine h1.mono ?_
    rintro e w1 ⟨rfl, rfl⟩
    go_wp2
    go_ret
    exact ⟨rfl, rfl⟩
  · simp only [Ty.id]
    have m1 := as_canvas_1
    go_enter Tryz.func70, Tryz.ntmps70
    go_wp2
    go_ret
    exact ⟨rfl, rfl⟩
  · have h1 := hn.out .gap
    simp only [Ty.id] at h1 ⊢
    have m1 := as_gap_1
    go_enter Tryz.func70, Tryz.ntmps70
    go_wp2_with fail
    refine h1.mono ?_
    rintro e w1 ⟨rfl, rfl⟩
    go_wp2
    go_ret
    exact ⟨rfl, rfl⟩

theorem mes_nil (w : World) :
    Calls Tryz.prog 70 #[.nilIface] w fun e w' => e = .returned .nilIface ∧ w' = w := by
  have m1 := as_nil_1
  go_enter Tryz.func70, Tryz.ntmps70
  go_wp2
  go_ret
  exact ⟨rfl, rfl⟩

set_option maxHeartbeats 1000000 in
theorem pai_made (t : Ty) (b k : Nat) (w : World) (h0 : w.cell? ⟨b, 0, none⟩ = some (.int .u8 (k : Nat))) (hk : kindB k = true) :
    Calls Tryz.prog 74 #[.iface t.id (.pointer (some ⟨b, 0, none⟩))] w fun e w' => e = .returned (bif t.pai then .iface t.id (.pointer (some ⟨b, 0, none⟩)) else .nilIface) ∧ w' = w := by
  have hn : Hid (∀ t : Ty, Calls Tryz.prog 24 #[.iface t.id (.pointer (some ⟨b, 0, none⟩))] w fun e w' => e = .returned (.bool false) ∧ w' = w) := fun t => none_made t b k w h0 hk
  clear h0 hk
  cases t
  · have h1 := hn.out .label
    simp only [Ty.id] at h1 ⊢
    have m1 := as_label_2
    go_enter Tryz.func74, Tryz.ntmps74
    go_wp2_with fail
    refine h1.mono ?_
    rintro e w1 ⟨rfl, rfl⟩
    go_wp2
    go_ret
    exact ⟨rfl, rfl⟩
  · have h1 := hn.out .button
    simp only [Ty.id] at h1 ⊢
    have m1 := as_button_2
    go_enter Tryz.func74, Tryz.ntmps74
    go_wp2_with fail
    refine h1.mono ?_
    rintro e w1 ⟨rfl, rfl⟩
    go_wp2
    go_ret
    exact ⟨rfl, rfl⟩
  · have h1 := hn.out .field
    simp only [Ty.id] at h1 ⊢
    have m1 := as_field_2
    go_enter Tryz.func74, Tryz.ntmps74
    go_wp2_with fail
    refine h1.mono ?_
    rintro e w1 ⟨rfl, rfl⟩
    go_wp2
    go_ret
    exact ⟨rfl, rfl⟩
  · simp only [Ty.id]
    have m1 := as_box_2
    go_enter Tryz.func74, Tryz.ntmps74
    go_wp2
    go_ret
    exact ⟨rfl, rfl⟩
  · have h1 := hn.out .scroll
    simp only [Ty.id] at h1 ⊢
    have m1 := as_scroll_2
    go_enter Tryz.func74, Tryz.ntmps74
    go_wp2_with fail
    refine h1.mono ?_
    rintro e w1 ⟨rfl, rfl⟩
    go_wp2
    go_ret
    exact ⟨rfl, rfl⟩
  · have h1 := hn.out .canvas
    simp only [Ty.id] at h1 ⊢
    have m1 := as_canvas_2
    go_enter Tryz.func74, Tryz.ntmps74
    go_wp2_with fail
    refine h1.mono ?_
    rintro e w1 ⟨rfl, rfl⟩
    go_wp2
    go_ret
    exact ⟨rfl, rfl⟩
  · simp only [Ty.id]
    have m1 := as_gap_2
    go_enter Tryz.func74, Tryz.ntmps74
    go_wp2
    go_ret
    exact ⟨rfl, rfl⟩

set_option maxHeartbeats 1000000 in
theorem pai_hollow (t : Ty) (w : World) :
    Calls Tryz.prog 74 #[.iface t.id (.pointer none)] w fun e w' => e = .returned .nilIface ∧ w' = w := by
  have hn : Hid (∀ t : Ty, Calls Tryz.prog 24 #[.iface t.id (.pointer none)] w fun e w' => e = .returned (.bool true) ∧ w' = w) := fun t => none_hollow t w
  cases t
  · have h1 := hn.out .label
    simp only [Ty.id] at h1 ⊢
    have m1 := as_label_2
    go_enter Tryz.func74, Tryz.ntmps74
    go_wp2_with fail
    refine h1.mono ?_
    rintro e w1 ⟨rfl, rfl⟩
    go_wp2
    go_ret
    exact ⟨rfl, rfl⟩
  · have h1 := hn.out .button
    simp only [Ty.id] at h1 ⊢
    have m1 := as_button_2
    go_enter Tryz.func74, Tryz.ntmps74
    go_wp2_with fail
    refine h1.mono ?_
    rintro e w1 ⟨rfl, rfl⟩
    go_wp2
    go_ret
    exact ⟨rfl, rfl⟩
  · have h1 := hn.out .field
    simp only [Ty.id] at h1 ⊢
    have m1 := as_field_2
    go_enter Tryz.func74, Tryz.ntmps74
    go_wp2_with fail
    refine h1.mono ?_
    rintro e w1 ⟨rfl, rfl⟩
    go_wp2
    go_ret
    exact ⟨rfl, rfl⟩
  · simp only [Ty.id]
    have m1 := as_box_2
    go_enter Tryz.func74, Tryz.ntmps74
    go_wp2
    go_ret
    exact ⟨rfl, rfl⟩
  · have h1 := hn.out .scroll
    simp only [Ty.id] at h1 ⊢
    have m1 := as_scroll_2
    go_enter Tryz.func74, Tryz.ntmps74
    go_wp2_with fail
    refine h1.mono ?_
    rintro e w1 ⟨rfl, rfl⟩
    go_wp2
    go_ret
    exact ⟨rfl, rfl⟩
  · have h1 := hn.out .canvas
    simp only [Ty.id] at h1 ⊢
    have m1 := as_canvas_2
    go_enter Tryz.func74, Tryz.ntmps74
    go_wp2_with fail
    refine h1.mono ?_
    rintro e w1 ⟨rfl, rfl⟩
    go_wp2
    go_ret
    exact ⟨rfl, rfl⟩
  · simp only [Ty.id]
    have m1 := as_gap_2
    go_enter Tryz.func74, Tryz.ntmps74
    go_wp2
    go_ret
    exact ⟨rfl, rfl⟩

theorem pai_nil (w : World) :
    Calls Tryz.prog 74 #[.nilIface] w fun e w' => e = .returned .nilIface ∧ w' = w := by
  have m1 := as_nil_2
  go_enter Tryz.func74, Tryz.ntmps74
  go_wp2
  go_ret
  exact ⟨rfl, rfl⟩

set_option maxHeartbeats 1000000 in
theorem foc_made (t : Ty) (b k : Nat) (w : World) (h0 : w.cell? ⟨b, 0, none⟩ = some (.int .u8 (k : Nat))) (hk : kindB k = true) :
    Calls Tryz.prog 89 #[.iface t.id (.pointer (some ⟨b, 0, none⟩))] w fun e w' => e = .returned (bif t.foc then .iface t.id (.pointer (some ⟨b, 0, none⟩)) else .nilIface) ∧ w' = w := by
  have hn : Hid (∀ t : Ty, Calls Tryz.prog 24 #[.iface t.id (.pointer (some ⟨b, 0, none⟩))] w fun e w' => e = .returned (.bool false) ∧ w' = w) := fun t => none_made t b k w h0 hk
  clear h0 hk
  cases t
  · simp only [Ty.id]
    have m1 := as_label_4
    go_enter Tryz.func89, Tryz.ntmps89
    go_wp2
    go_ret
    exact ⟨rfl, rfl⟩
  · have h1 := hn.out .button
    simp only [Ty.id] at h1 ⊢
    have m1 := as_button_4
    go_enter Tryz.func89, Tryz.ntmps89
    go_wp2_with fail
    refine h1.mono ?_
    rintro e w1 ⟨rfl, rfl⟩
    go_wp2
    go_ret
    exact ⟨rfl, rfl⟩
  · have h1 := hn.out .field
    simp only [Ty.id] at h1 ⊢
    have m1 := as_field_4
    go_enter Tryz.func89, Tryz.ntmps89
    go_wp2_with fail
    refine h1.mono ?_
    rintro e w1 ⟨rfl, rfl⟩
    go_wp2
    go_ret
    exact ⟨rfl, rfl⟩
  · simp only [Ty.id]
    have m1 := as_box_4
    go_enter Tryz.func89, Tryz.ntmps89
    go_wp2
    go_ret
    exact ⟨rfl, rfl⟩
  · have h1 := hn.out .scroll
    simp only [Ty.id] at h1 ⊢
    have m1 := as_scroll_4
    go_enter Tryz.func89, Tryz.ntmps89
    go_wp2_with fail
    refine h1.mono ?_
    rintro e w1 ⟨rfl, rfl⟩
    go_wp2
    go_ret
    exact ⟨rfl, rfl⟩
  · simp only [Ty.id]
    have m1 := as_canvas_4
    go_enter Tryz.func89, Tryz.ntmps89
    go_wp2
    go_ret
    exact ⟨rfl, rfl⟩
  · simp only [Ty.id]
    have m1 := as_gap_4
    go_enter Tryz.func89, Tryz.ntmps89
    go_wp2
    go_ret
    exact ⟨rfl, rfl⟩

set_option maxHeartbeats 1000000 in
theorem foc_hollow (t : Ty) (w : World) :
    Calls Tryz.prog 89 #[.iface t.id (.pointer none)] w fun e w' => e = .returned .nilIface ∧ w' = w := by
  have hn : Hid (∀ t : Ty, Calls Tryz.prog 24 #[.iface t.id (.pointer none)] w fun e w' => e = .returned (.bool true) ∧ w' = w) := fun t => none_hollow t w
  cases t
  · simp only [Ty.id]
    have m1 := as_label_4
    go_enter Tryz.func89, Tryz.ntmps89
    go_wp2
    go_ret
    exact ⟨rfl, rfl⟩
  · have h1 := hn.out .button
    simp only [Ty.id] at h1 ⊢
    have m1 := as_button_4
    go_enter Tryz.func89, Tryz.ntmps89
    go_wp2_with fail
    refine h1.mono ?_
    rintro e w1 ⟨rfl, rfl⟩
    go_wp2
    go_ret
    exact ⟨rfl, rfl⟩
  · have h1 := hn.out .field
    simp only [Ty.id] at h1 ⊢
    have m1 := as_field_4
    go_enter Tryz.func89, Tryz.ntmps89
    go_wp2_with fail
    refine h1.mono ?_
    rintro e w1 ⟨rfl, rfl⟩
    go_wp2
    go_ret
    exact ⟨rfl, rfl⟩
  · simp only [Ty.id]
    have m1 := as_box_4
    go_enter Tryz.func89, Tryz.ntmps89
    go_wp2
    go_ret
    exact ⟨rfl, rfl⟩
  · have h1 := hn.out .scroll
    simp only [Ty.id] at h1 ⊢
    have m1 := as_scroll_4
    go_enter Tryz.func89, Tryz.ntmps89
    go_wp2_with fail
    refine h1.mono ?_
    rintro e w1 ⟨rfl, rfl⟩
    go_wp2
    go_ret
    exact ⟨rfl, rfl⟩
  · simp only [Ty.id]
    have m1 := as_canvas_4
    go_enter Tryz.func89, Tryz.ntmps89
    go_wp2
    go_ret
    exact ⟨rfl, rfl⟩
  · simp only [Ty.id]
    have m1 := as_gap_4
    go_enter Tryz.func89, Tryz.ntmps89
    go_wp2
    go_ret
    exact ⟨rfl, rfl⟩

theorem foc_nil (w : World) :
    Calls Tryz.prog 89 #[.nilIface] w fun e w' => e = .returned .nilIface ∧ w' = w := by
  have m1 := as_nil_4
  go_enter Tryz.func89, Tryz.ntmps89
  go_wp2
  go_ret
  exact ⟨rfl, rfl⟩

set_option maxHeartbeats 1000000 in
theorem scr_made (t : Ty) (b k : Nat) (w : World) (h0 : w.cell? ⟨b, 0, none⟩ = some (.int .u8 (k : Nat))) (hk : kindB k = true) :
    Calls Tryz.prog 91 #[.iface t.id (.pointer (some ⟨b, 0, none⟩))] w fun e w' => e = .returned (bif t.scr then .iface t.id (.pointer (some ⟨b, 0, none⟩)) else .nilIface) ∧ w' = w := by
  have hn : Hid (∀ t : Ty, Calls Tryz.prog 24 #[.iface t.id (.pointer (some ⟨b, 0, none⟩))] w fun e w' => e = .returned (.bool false) ∧ w' = w) := fun t => none_made t b k w h0 hk
  clear h0 hk
  cases t
  · simp only [Ty.id]
    have m1 := as_label_8
    go_enter Tryz.func91, Tryz.ntmps91
    go_wp2
    go_ret
    exact ⟨rfl, rfl⟩
  · simp only [Ty.id]
    have m1 := as_button_8
    go_enter Tryz.func91, Tryz.ntmps91
    go_wp2
    go_ret
    exact ⟨rfl, rfl⟩
  · simp only [Ty.id]
    have m1 := as_field_8
    go_enter Tryz.func91, Tryz.ntmps91
    go_wp2
    go_ret
    exact ⟨rfl, rfl⟩
  · simp only [Ty.id]
    have m1 := as_box_8
    go_enter Tryz.func91, Tryz.ntmps91
    go_wp2
    go_ret
    exact ⟨rfl, rfl⟩
  · have h1 := hn.out .scroll
    simp only [Ty.id] at h1 ⊢
    have m1 := as_scroll_8
    go_enter Tryz.func91, Tryz.ntmps91
    go_wp2_with fail
    refine h1.mono ?_
    rintro e w1 ⟨rfl, rfl⟩
    go_wp2
    go_ret
    exact ⟨rfl, rfl⟩
  · simp only [Ty.id]
    have m1 := as_canvas_8
    go_enter Tryz.func91, Tryz.ntmps91
    go_wp2
    go_ret
    exact ⟨rfl, rfl⟩
  · simp only [Ty.id]
    have m1 := as_gap_8
    go_enter Tryz.func91, Tryz.ntmps91
    go_wp2
    go_ret
    exact ⟨rfl, rfl⟩

set_option maxHeartbeats 1000000 in
theorem scr_hollow (t : Ty) (w : World) :
    Calls Tryz.prog 91 #[.iface t.id (.pointer none)] w fun e w' => e = .returned .nilIface ∧ w' = w := by
  have hn : Hid (∀ t : Ty, Calls Tryz.prog 24 #[.iface t.id (.pointer none)] w fun e w' => e = .returned (.bool true) ∧ w' = w) := fun t => none_hollow t w
  cases t
  · simp only [Ty.id]
    have m1 := as_label_8
    go_enter Tryz.func91, Tryz.ntmps91
    go_wp2
    go_ret
    exact ⟨rfl, rfl⟩
  · simp only [Ty.id]
    have m1 := as_button_8
    go_enter Tryz.func91, Tryz.ntmps91
    go_wp2
    go_ret
    exact ⟨rfl, rfl⟩
  · simp only [Ty.id]
    have m1 := as_field_8
    go_enter Tryz.func91, Tryz.ntmps91
    go_wp2
    go_ret
    exact ⟨rfl, rfl⟩
  · simp only [Ty.id]
    have m1 := as_box_8
    go_enter Tryz.func91, Tryz.ntmps91
    go_wp2
    go_ret
    exact ⟨rfl, rfl⟩
  · have h1 := hn.out .scroll
    simp only [Ty.id] at h1 ⊢
    have m1 := as_scroll_8
    go_enter Tryz.func91, Tryz.ntmps91
    go_wp2_with fail
    refine h1.mono ?_
    rintro e w1 ⟨rfl, rfl⟩
    go_wp2
    go_ret
    exact ⟨rfl, rfl⟩
  · simp only [Ty.id]
    have m1 := as_canvas_8
    go_enter Tryz.func91, Tryz.ntmps91
    go_wp2
    go_ret
    exact ⟨rfl, rfl⟩
  · simp only [Ty.id]
    have m1 := as_gap_8
    go_enter Tryz.func91, Tryz.ntmps91
    go_wp2
    go_ret
    exact ⟨rfl, rfl⟩

theorem scr_nil (w : World) :
    Calls Tryz.prog 91 #[.nilIface] w fun e w' => e = .returned .nilIface ∧ w' = w := by
  have m1 := as_nil_8
  go_enter Tryz.func91, Tryz.ntmps91
  go_wp2
  go_ret
  exact ⟨rfl, rfl⟩

set_option maxHeartbeats 1000000 in
theorem acc_made (t : Ty) (b k : Nat) (w : World) (h0 : w.cell? ⟨b, 0, none⟩ = some (.int .u8 (k : Nat))) (hk : kindB k = true) :
    Calls Tryz.prog 93 #[.iface t.id (.pointer (some ⟨b, 0, none⟩))] w fun e w' => e = .returned (bif t.acc then .iface t.id (.pointer (some ⟨b, 0, none⟩)) else .nilIface) ∧ w' = w := by
  have hn : Hid (∀ t : Ty, Calls Tryz.prog 24 #[.iface t.id (.pointer (some ⟨b, 0, none⟩))] w fun e w' => e = .returned (.bool false) ∧ w' = w) := fun t => none_made t b k w h0 hk
  clear h0 hk
  cases t
  · simp only [Ty.id]
    have m1 := as_label_16
    go_enter Tryz.func93, Tryz.ntmps93
    go_wp2
    go_ret
    exact ⟨rfl, rfl⟩
  · simp only [Ty.id]
    have m1 := as_button_16
    go_enter Tryz.func93, Tryz.ntmps93
    go_wp2
    go_ret
    exact ⟨rfl, rfl⟩
  · have h1 := hn.out .field
    simp only [Ty.id] at h1 ⊢
    have m1 := as_field_16
    go_enter Tryz.func93, Tryz.ntmps93
    go_wp2_with fail
    refine h1.mono ?_
    rintro e w1 ⟨rfl, rfl⟩
    go_wp2
    go_ret
    exact ⟨rfl, rfl⟩
  · simp only [Ty.id]
    have m1 := as_box_16
    go_enter Tryz.func93, Tryz.ntmps93
    go_wp2
    go_ret
    exact ⟨rfl, rfl⟩
  · simp only [Ty.id]
    have m1 := as_scroll_16
    go_enter Tryz.func93, Tryz.ntmps93
    go_wp2
    go_ret
    exact ⟨rfl, rfl⟩
  · simp only [Ty.id]
    have m1 := as_canvas_16
    go_enter Tryz.func93, Tryz.ntmps93
    go_wp2
    go_ret
    exact ⟨rfl, rfl⟩
  · simp only [Ty.id]
    have m1 := as_gap_16
    go_enter Tryz.func93, Tryz.ntmps93
    go_wp2
    go_ret
    exact ⟨rfl, rfl⟩

set_option maxHeartbeats 1000000 in
theorem acc_hollow (t : Ty) (w : World) :
    Calls Tryz.prog 93 #[.iface t.id (.pointer none)] w fun e w' => e = .returned .nilIface ∧ w' = w := by
  have hn : Hid (∀ t : Ty, Calls Tryz.prog 24 #[.iface t.id (.pointer none)] w fun e w' => e = .returned (.bool true) ∧ w' = w) := fun t => none_hollow t w
  cases t
  · simp only [Ty.id]
    have m1 := as_label_16
    go_enter Tryz.func93, Tryz.ntmps93
    go_wp2
    go_ret
    exact ⟨rfl, rfl⟩
  · simp only [Ty.id]
    have m1 := as_button_16
    go_enter Tryz.func93, Tryz.ntmps93
    go_wp2
    go_ret
    exact ⟨rfl, rfl⟩
  · have h1 := hn.out .field
    simp only [Ty.id] at h1 ⊢
    have m1 := as_field_16
    go_enter Tryz.func93, Tryz.ntmps93
    go_wp2_with fail
    refine h1.mono ?_
    rintro e w1 ⟨rfl, rfl⟩
    go_wp2
    go_ret
    exact ⟨rfl, rfl⟩
  · simp only [Ty.id]
    have m1 := as_box_16
    go_enter Tryz.func93, Tryz.ntmps93
    go_wp2
    go_ret
    exact ⟨rfl, rfl⟩
  · simp only [Ty.id]
    have m1 := as_scroll_16
    go_enter Tryz.func93, Tryz.ntmps93
    go_wp2
    go_ret
    exact ⟨rfl, rfl⟩
  · simp only [Ty.id]
    have m1 := as_canvas_16
    go_enter Tryz.func93, Tryz.ntmps93
    go_wp2
    go_ret
    exact ⟨rfl, rfl⟩
  · simp only [Ty.id]
    have m1 := as_gap_16
    go_enter Tryz.func93, Tryz.ntmps93
    go_wp2
    go_ret
    exact ⟨rfl, rfl⟩

theorem acc_nil (w : World) :
    Calls Tryz.prog 93 #[.nilIface] w fun e w' => e = .returned .nilIface ∧ w' = w := by
  have m1 := as_nil_16
  go_enter Tryz.func93, Tryz.ntmps93
  go_wp2
  go_ret
  exact ⟨rfl, rfl⟩

set_option maxHeartbeats 1000000 in
theorem hol_made (t : Ty) (b k : Nat) (w : World) (h0 : w.cell? ⟨b, 0, none⟩ = some (.int .u8 (k : Nat))) (hk : kindB k = true) :
    Calls Tryz.prog 97 #[.iface t.id (.pointer (some ⟨b, 0, none⟩))] w fun e w' => e = .returned (bif t.hol then .iface t.id (.pointer (some ⟨b, 0, none⟩)) else .nilIface) ∧ w' = w := by
  have hn : Hid (∀ t : Ty, Calls Tryz.prog 24 #[.iface t.id (.pointer (some ⟨b, 0, none⟩))] w fun e w' => e = .returned (.bool false) ∧ w' = w) := fun t => none_made t b k w h0 hk
  clear h0 hk
  cases t
  · simp only [Ty.id]
    have m1 := as_label_32
    go_enter Tryz.func97, Tryz.ntmps97
    go_wp2
    go_ret
    exact ⟨rfl, rfl⟩
  · simp only [Ty.id]
    have m1 := as_button_32
    go_enter Tryz.func97, Tryz.ntmps97
    go_wp2
    go_ret
    exact ⟨rfl, rfl⟩
  · simp only [Ty.id]
    have m1 := as_field_32
    go_enter Tryz.func97, Tryz.ntmps97
    go_wp2
    go_ret
    exact ⟨rfl, rfl⟩
  · have h1 := hn.out .box
    simp only [Ty.id] at h1 ⊢
    have m1 := as_box_32
    go_enter Tryz.func97, Tryz.ntmps97
    go_wp2_with fail
    refine h1.mono ?_
    rintro e w1 ⟨rfl, rfl⟩
    go_wp2
    go_ret
    exact ⟨rfl, rfl⟩
  · have h1 := hn.out .scroll
    simp only [Ty.id] at h1 ⊢
    have m1 := as_scroll_32
    go_enter Tryz.func97, Tryz.ntmps97
    go_wp2_with fail
    refine h1.mono ?_
    rintro e w1 ⟨rfl, rfl⟩
    go_wp2
    go_ret
    exact ⟨rfl, rfl⟩
  · simp only [Ty.id]
    have m1 := as_canvas_32
    go_enter Tryz.func97, Tryz.ntmps97
    go_wp2
    go_ret
    exact ⟨rfl, rfl⟩
  · simp only [Ty.id]
    have m1 := as_gap_32
    go_enter Tryz.func97, Tryz.ntmps97
    go_wp2
    go_ret
    exact ⟨rfl, rfl⟩

set_option maxHeartbeats 1000000 in
theorem hol_hollow (t : Ty) (w : World) :
    Calls Tryz.prog 97 #[.iface t.id (.pointer none)] w fun e w' => e = .returned .nilIface ∧ w' = w := by
  have hn : Hid (∀ t : Ty, Calls Tryz.prog 24 #[.iface t.id (.pointer none)] w fun e w' => e = .returned (.bool true) ∧ w' = w) := fun t => none_hollow t w
  cases t
  · simp only [Ty.id]
    have m1 := as_label_32
    go_enter Tryz.func97, Tryz.ntmps97
    go_wp2
    go_ret
    exact ⟨rfl, rfl⟩
  · simp only [Ty.id]
    have m1 := as_button_32
    go_enter Tryz.func97, Tryz.ntmps97
    go_wp2
    go_ret
    exact ⟨rfl, rfl⟩
  · simp only [Ty.id]
    have m1 := as_field_32
    go_enter Tryz.func97, Tryz.ntmps97
    go_wp2
    go_ret
    exact ⟨rfl, rfl⟩
  · have h1 := hn.out .box
    simp only [Ty.id] at h1 ⊢
    have m1 := as_box_32
    go_enter Tryz.func97, Tryz.ntmps97
    go_wp2_with fail
    refine h1.mono ?_
    rintro e w1 ⟨rfl, rfl⟩
    go_wp2
    go_ret
    exact ⟨rfl, rfl⟩
  · have h1 := hn.out .scroll
    simp only [Ty.id] at h1 ⊢
    have m1 := as_scroll_32
    go_enter Tryz.func97, Tryz.ntmps97
    go_wp2_with fail
    refine h1.mono ?_
    rintro e w1 ⟨rfl, rfl⟩
    go_wp2
    go_ret
    exact ⟨rfl, rfl⟩
  · simp only [Ty.id]
    have m1 := as_canvas_32
    go_enter Tryz.func97, Tryz.ntmps97
    go_wp2
    go_ret
    exact ⟨rfl, rfl⟩
  · simp only [Ty.id]
    have m1 := as_gap_32
    go_enter Tryz.func97, Tryz.ntmps97
    go_wp2
    go_ret
    exact ⟨rfl, rfl⟩

theorem hol_nil (w : World) :
    Calls Tryz.prog 97 #[.nilIface] w fun e w' => e = .returned .nilIface ∧ w' = w := by
  have m1 := as_nil_32
  go_enter Tryz.func97, Tryz.ntmps97
  go_wp2
  go_ret
  exact ⟨rfl, rfl⟩

end Go.Proofs.YtbnbfgkcndomaabGreatDoor
