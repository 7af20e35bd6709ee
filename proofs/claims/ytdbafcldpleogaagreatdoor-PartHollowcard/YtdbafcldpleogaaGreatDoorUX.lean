/-
  Kind and Name of parts, whatever their type.
-/
import Derived.Test.YtdbafcldpleogaaGreatDoorUF
namespace Go.Proofs.YtdbafcldpleogaaGreatDoor
open Go.RowKit

def Ty.kf : Ty → Nat
  | .label => 164 | .button => 166 | .field => 168 | .box => 171 | .scroll => 174 | .canvas => 177 | .gap => 179
def Ty.nf : Ty → Nat
  | .label => 165 | .button => 167 | .field => 169 | .box => 172 | .scroll => 175 | .canvas => 178 | .gap => 180
theorem me_Kind (t : Ty) (f : Nat) (x : Option Addr) (w : World) : (method (f + 1) t.id (.pointer x) "Kind").run Tryz.prog w = .ok (t.kf, .pointer x) w := by
  cases t
  · exact me_label_Kind f x w
  · exact me_button_Kind f x w
  · exact me_field_Kind f x w
  · exact me_box_Kind f x w
  · exact me_scroll_Kind f x w
  · exact me_canvas_Kind f x w
  · exact me_gap_Kind f x w
theorem me_Name (t : Ty) (f : Nat) (x : Option Addr) (w : World) : (method (f + 1) t.id (.pointer x) "Name").run Tryz.prog w = .ok (t.nf, .pointer x) w := by
  cases t
  · exact me_label_Name f x w
  · exact me_button_Name f x w
  · exact me_field_Name f x w
  · exact me_box_Name f x w
  · exact me_scroll_Name f x w
  · exact me_canvas_Name f x w
  · exact me_gap_Name f x w
theorem ent_kf (t : Ty) (args : Array Value) (w : World) : (callFunc t.kf args).run Tryz.prog w = .ok (.enter t.kf args) w := by
  cases t <;> kernel_rfl
theorem ent_nf (t : Ty) (args : Array Value) (w : World) : (callFunc t.nf args).run Tryz.prog w = .ok (.enter t.nf args) w := by
  cases t <;> kernel_rfl

set_option maxHeartbeats 1000000 in
theorem kf_hol (t : Ty) (w : World) : Calls Tryz.prog t.kf #[.pointer none] w fun e w' => e = .returned (.int .u8 0) ∧ w' = w := by
  cases t
  · show Calls Tryz.prog 164 _ _ _
    go_enter Tryz.func164, Tryz.ntmps164
    go_wp2
    go_ret
    exact ⟨rfl, rfl⟩
  · show Calls Tryz.prog 166 _ _ _
    go_enter Tryz.func166, Tryz.ntmps166
    go_wp2
    go_ret
    exact ⟨rfl, rfl⟩
  · show Calls Tryz.prog 168 _ _ _
    go_enter Tryz.func168, Tryz.ntmps168
    go_wp2
    go_ret
    exact ⟨rfl, rfl⟩
  · show Calls Tryz.prog 171 _ _ _
    go_enter Tryz.func171, Tryz.ntmps171
    go_wp2
    go_ret
    exact ⟨rfl, rfl⟩
  · show Calls Tryz.prog 174 _ _ _
    go_enter Tryz.func174, Tryz.ntmps174
    go_wp2
    go_ret
    exact ⟨rfl, rfl⟩
  · show Calls Tryz.prog 177 _ _ _
    go_enter Tryz.func177, Tryz.ntmps177
    go_wp2
    go_ret
    exact ⟨rfl, rfl⟩
  · show Calls Tryz.prog 179 _ _ _
    go_enter Tryz.func179, Tryz.ntmps179
    go_wp2
    go_ret
    exact ⟨rfl, rfl⟩

set_option maxHeartbeats 1000000 in
theorem kf_made (t : Ty) (b : Nat) (k : Nat) (w : World) (h : w.cell? ⟨b, 0, none⟩ = some (.int .u8 (k : Nat))) : Calls Tryz.prog t.kf #[.pointer (some ⟨b, 0, none⟩)] w fun e w' => e = .returned (.int .u8 (k : Nat)) ∧ w' = w := by
  cases t
  · show Calls Tryz.prog 164 _ _ _
    go_enter Tryz.func164, Tryz.ntmps164
    go_wp2
    go_ret
    exact ⟨rfl, rfl⟩
  · show Calls Tryz.prog 166 _ _ _
    go_enter Tryz.func166, Tryz.ntmps166
    go_wp2
    go_ret
    exact ⟨rfl, rfl⟩
  · show Calls Tryz.prog 168 _ _ _
    go_enter Tryz.func168, Tryz.ntmps168
    go_wp2
    go_ret
    exact ⟨rfl, rfl⟩
  · show Calls Tryz.prog 171 _ _ _
    go_enter Tryz.func171, Tryz.ntmps171
    go_wp2
    go_ret
    exact ⟨rfl, rfl⟩
  · show Calls Tryz.prog 174 _ _ _
    go_enter Tryz.func174, Tryz.ntmps174
    go_wp2
    go_ret
    exact ⟨rfl, rfl⟩
  · show Calls Tryz.prog 177 _ _ _
    go_enter Tryz.func177, Tryz.ntmps177
    go_wp2
    go_ret
    exact ⟨rfl, rfl⟩
  · show Calls Tryz.prog 179 _ _ _
    go_enter Tryz.func179, Tryz.ntmps179
    go_wp2
    go_ret
    exact ⟨rfl, rfl⟩

set_option maxHeartbeats 1000000 in
theorem nf_hol (t : Ty) (w : World) : Calls Tryz.prog t.nf #[.pointer none] w fun e w' => e = .returned (.string ⟨#[]⟩) ∧ w' = w := by
  cases t
  · show Calls Tryz.prog 165 _ _ _
    go_enter Tryz.func165, Tryz.ntmps165
    go_wp2
    go_ret
    exact ⟨rfl, rfl⟩
  · show Calls Tryz.prog 167 _ _ _
    go_enter Tryz.func167, Tryz.ntmps167
    go_wp2
    go_ret
    exact ⟨rfl, rfl⟩
  · show Calls Tryz.prog 169 _ _ _
    go_enter Tryz.func169, Tryz.ntmps169
    go_wp2
    go_ret
    exact ⟨rfl, rfl⟩
  · show Calls Tryz.prog 172 _ _ _
    go_enter Tryz.func172, Tryz.ntmps172
    go_wp2
    go_ret
    exact ⟨rfl, rfl⟩
  · show Calls Tryz.prog 175 _ _ _
    go_enter Tryz.func175, Tryz.ntmps175
    go_wp2
    go_ret
    exact ⟨rfl, rfl⟩
  · show Calls Tryz.prog 178 _ _ _
    go_enter Tryz.func178, Tryz.ntmps178
    go_wp2
    go_ret
    exact ⟨rfl, rfl⟩
  · show Calls Tryz.prog 180 _ _ _
    go_enter Tryz.func180, Tryz.ntmps180
    go_wp2
    go_ret
    exact ⟨rfl, rfl⟩

set_option maxHeartbeats 1000000 in
theorem nf_made (t : Ty) (b : Nat) (s : ByteArray) (w : World) (h : w.cell? ⟨b, 1, none⟩ = some (.string s)) : Calls Tryz.prog t.nf #[.pointer (some ⟨b, 0, none⟩)] w fun e w' => e = .returned (.string s) ∧ w' = w := by
  cases t
  · show Calls Tryz.prog 165 _ _ _
    go_enter Tryz.func165, Tryz.ntmps165
    go_wp2
    go_ret
    exact ⟨rfl, rfl⟩
  · show Calls Tryz.prog 167 _ _ _
    go_enter Tryz.func167, Tryz.ntmps167
    go_wp2
    go_ret
    exact ⟨rfl, rfl⟩
  · show Calls Tryz.prog 169 _ _ _
    go_enter Tryz.func169, Tryz.ntmps169
    go_wp2
    go_ret
    exact ⟨rfl, rfl⟩
  · show Calls Tryz.prog 172 _ _ _
    go_enter Tryz.func172, Tryz.ntmps172
    go_wp2
    go_ret
    exact ⟨rfl, rfl⟩
  · show Calls Tryz.prog 175 _ _ _
    go_enter Tryz.func175, Tryz.ntmps175
    go_wp2
    go_ret
    exact ⟨rfl, rfl⟩
  · show Calls Tryz.prog 178 _ _ _
    go_enter Tryz.func178, Tryz.ntmps178
    go_wp2
    go_ret
    exact ⟨rfl, rfl⟩
  · show Calls Tryz.prog 180 _ _ _
    go_enter Tryz.func180, Tryz.ntmps180
    go_wp2
    go_ret
    exact ⟨rfl, rfl⟩

end Go.Proofs.YtdbafcldpleogaaGreatDoor
