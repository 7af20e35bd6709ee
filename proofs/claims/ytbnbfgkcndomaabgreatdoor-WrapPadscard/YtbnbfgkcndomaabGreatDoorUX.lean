/-
  Kind and Name of parts, whatever their type.
-/
import Derived.Test.YtbnbfgkcndomaabGreatDoorUF
namespace Go.Proofs.YtbnbfgkcndomaabGreatDoor
open Go.RowKit

def Ty.kf : Ty → Nat
  | .label => 203 | .button => 218 | .field => 221 | .box => 224 | .scroll => 227 | .canvas => 230 | .gap => 232
def Ty.nf : Ty → Nat
  | .label => 205 | .button => 219 | .field => 222 | .box => 225 | .scroll => 228 | .canvas => 231 | .gap => 233
theorem me_Kind (t : Ty) (f : Nat) (x : Option Addr) (w : World) : (method (f + 1) t.id (.pointer x) "Kind").run Tryz.prog w = .ok (t.kf, .pointer x) w := by
  cases t
  · exact me_label_Kind f x w
  · exact me_button_Kind f x w
  · exact me_field_Kind f x w
  · exact me_box_Kind f x w
  · exact me_scroll_Kind f x w
  · exact me_canvas_Kind f x w
  · exact me_gap_Kind f x w
theorem me_Name (t : Ty) (f : Nat) (x : Option Addr) (w : World) : (method (f + 1) t.id (.pointer x) "Name").run Tryz.prog w = .ok (t.nf, .pointer x) w := by
  cases t
  · exact me_label_Name f x w
  · exact me_button_Name f x w
  · exact me_field_Name f x w
  · exact me_box_Name f x w
  · exact me_scroll_Name f x w
  · exact me_canvas_Name f x w
  · exact me_gap_Name f x w
theorem ent_kf (t : Ty) (args : Array Value) (w : World) : (callFunc t.kf args).run Tryz.prog w = .ok (.enter t.kf args) w := by
  cases t <;> kernel_rfl
theorem ent_nf (t : Ty) (args : Array Value) (w : World) : (callFunc t.nf args).run Tryz.prog w = .ok (.enter t.nf args) w := by
  cases t <;> kernel_rfl

set_option maxHeartbeats 1000000 in
theorem kf_hol (t : Ty) (w : World) : Calls Tryz.prog t.kf #[.pointer none] w fun e w' => e = .returned (.int .u8 0) ∧ w' = w := by
  cases t
  · show Calls Tryz.prog 203 _ _ _
    go_enter Tryz.func203, Tryz.ntmps203
    go_wp2
    go_ret
    exact ⟨rfl, rfl⟩
  · show Calls Tryz.prog 218 _ _ _
    go_enter Tryz.func218, Tryz.ntmps218
    go_wp2
    go_ret
    exact ⟨rfl, rfl⟩
  · show Calls Tryz.prog 221 _ _ _
    go_enter Tryz.func221, Tryz.ntmps221
    go_wp2
    go_ret
    exact ⟨rfl, rfl⟩
  · show Calls Tryz.prog 224 _ _ _
    go_enter Tryz.func224, Tryz.ntmps224
    go_wp2
    go_ret
    exact ⟨rfl, rfl⟩
  · show Calls Tryz.prog 227 _ _ _
    go_enter Tryz.func227, Tryz.ntmps227
    go_wp2
    go_ret
    exact ⟨rfl, rfl⟩
  · show Calls Tryz.prog 230 _ _ _
    go_enter Tryz.func230, Tryz.ntmps230
    go_wp2
    go_ret
    exact ⟨rfl, rfl⟩
  · show Calls Tryz.prog 232 _ _ _
    go_enter Tryz.func232, Tryz.ntmps232
    go_wp2
    go_ret
    exact ⟨rfl, rfl⟩

set_option maxHeartbeats 1000000 in
theorem kf_made (t : Ty) (b : Nat) (k : Nat) (w : World) (h : w.cell? ⟨b, 0, none⟩ = some (.int .u8 (k : Nat))) : Calls Tryz.prog t.kf #[.pointer (some ⟨b, 0, none⟩)] w fun e w' => e = .returned (.int .u8 (k : Nat)) ∧ w' = w := by
  cases t
  · show Calls Tryz.prog 203 _ _ _
    go_enter Tryz.func203, Tryz.ntmps203
    go_wp2
    go_ret
    exact ⟨rfl, rfl⟩
  · show Calls Tryz.prog 218 _ _ _
    go_enter Tryz.func218, Tryz.ntmps218
    go_wp2
    go_ret
    exact ⟨rfl, rfl⟩
  · show Calls Tryz.prog 221 _ _ _
    go_enter Tryz.func221, Tryz.ntmps221
    go_wp2
    go_ret
    exact ⟨rfl, rfl⟩
  · show Calls Tryz.prog 224 _ _ _
    go_enter Tryz.func224, Tryz.ntmps224
    go_wp2
    go_ret
    exact ⟨rfl, rfl⟩
  · show Calls Tryz.prog 227 _ _ _
    go_enter Tryz.func227, Tryz.ntmps227
    go_wp2
    go_ret
    exact ⟨rfl, rfl⟩
  · show Calls Tryz.prog 230 _ _ _
    go_enter Tryz.func230, Tryz.ntmps230
    go_wp2
    go_ret
    exact ⟨rfl, rfl⟩
  · show Calls Tryz.prog 232 _ _ _
    go_enter Tryz.func232, Tryz.ntmps232
    go_wp2
    go_ret
    exact ⟨rfl, rfl⟩

set_option maxHeartbeats 1000000 in
theorem nf_hol (t : Ty) (w : World) : Calls Tryz.prog t.nf #[.pointer none] w fun e w' => e = .returned (.string ⟨#[]⟩) ∧ w' = w := by
  cases t
  · show Calls Tryz.prog 205 _ _ _
    go_enter Tryz.func205, Tryz.ntmps205
    go_wp2
    go_ret
    exact ⟨rfl, rfl⟩
  · show Calls Tryz.prog 219 _ _ _
    go_enter Tryz.func219, Tryz.ntmps219
    go_wp2
    go_ret
    exact ⟨rfl, rfl⟩
  · show Calls Tryz.prog 222 _ _ _
    go_enter Tryz.func222, Tryz.ntmps222
    go_wp2
    go_ret
    exact ⟨rfl, rfl⟩
  · show Calls Tryz.prog 225 _ _ _
    go_enter Tryz.func225, Tryz.ntmps225
    go_wp2
    go_ret
    exact ⟨rfl, rfl⟩
  · show Calls Tryz.prog 228 _ _ _
    go_enter Tryz.func228, Tryz.ntmps228
    go_wp2
    go_ret
    exact ⟨rfl, rfl⟩
  · show Calls Tryz.prog 231 _ _ _
    go_enter Tryz.func231, Tryz.ntmps231
    go_wp2
    go_ret
    exact ⟨rfl, rfl⟩
  · show Calls Tryz.prog 233 _ _ _
    go_enter Tryz.func233, Tryz.ntmps233
    go_wp2
    go_ret
    exact ⟨rfl, rfl⟩

set_option maxHeartbeats 1000000 in
theorem nf_made (t : Ty) (b : Nat) (s : ByteArray) (w : World) (h : w.cell? ⟨b, 1, none⟩ = some (.string s)) : Calls Tryz.prog t.nf #[.pointer (some ⟨b, 0, none⟩)] w fun e w' => e = .returned (.string s) ∧ w' = w := by
  cases t
  · show Calls Tryz.prog 205 _ _ _
    go_enter Tryz.func205, Tryz.ntmps205
    go_wp2
    go_ret
    exact ⟨rfl, rfl⟩
  · show Calls Tryz.prog 219 _ _ _
    go_enter Tryz.func219, Tryz.ntmps219
    go_wp2
    go_ret
    exact ⟨rfl, rfl⟩
  · show Calls Tryz.prog 222 _ _ _
    go_enter Tryz.func222, Tryz.ntmps222
    go_wp2
    go_ret
    exact ⟨rfl, rfl⟩
  · show Calls Tryz.prog 225 _ _ _
    go_enter Tryz.func225, Tryz.ntmps225
    go_wp2
    go_ret
    exact ⟨rfl, rfl⟩
  · show Calls Tryz.prog 228 _ _ _
    go_enter Tryz.func228, Tryz.ntmps228
    go_wp2
    go_ret
    exact ⟨rfl, rfl⟩
  · show Calls Tryz.prog 231 _ _ _
    go_enter Tryz.func231, Tryz.ntmps231
    go_wp2
    go_ret
    exact ⟨rfl, rfl⟩
  · show Calls Tryz.prog 233 _ _ _
    go_enter Tryz.func233, Tryz.ntmps233
    go_wp2
    go_ret
    exact ⟨rfl, rfl⟩

end Go.Proofs.YtbnbfgkcndomaabGreatDoor
