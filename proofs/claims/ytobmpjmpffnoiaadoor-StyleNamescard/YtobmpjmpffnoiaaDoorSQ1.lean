/-
  The document's own comparing of rules: lists of the same rules are the same.
-/
import Derived.Test.YtobmpjmpffnoiaaDoorSW3
namespace Go.Proofs.YtobmpjmpffnoiaaDoor
open Go.RowKit Go.Shelf

set_option maxHeartbeats 1000000 in
theorem sameLook_any (k : Lk) (w : World) :
    Calls Tryd.prog 49 #[(Value.agg #[.int .u8 (k.has : Nat), .int .u8 k.r, .int .u8 k.g, .int .u8 k.b, .int .u8 k.a, .int .u8 k.r2, .int .u8 k.g2, .int .u8 k.b2, .int .u8 k.a2, .bool k.bd, .int .i64 k.pad]), (Value.agg #[.int .u8 (k.has : Nat), .int .u8 k.r, .int .u8 k.g, .int .u8 k.b, .int .u8 k.a, .int .u8 k.r2, .int .u8 k.g2, .int .u8 k.b2, .int .u8 k.a2, .bool k.bd, .int .i64 k.pad])] w fun e w' => e = .returned (.bool true) ∧ Below w.heap.size w w' := by
  go_enter Tryd.func49, Tryd.ntmps49
  go_wp2
  go_ret
  exact ⟨rfl, ((Below.refl _ w).alloc (Nat.le_refl _) _).alloc (by simp) _⟩

set_option maxHeartbeats 1000000 in
theorem sameRule_any (r : Rl) (w : World) :
    Calls Tryd.prog 33 #[(Value.agg #[.int .u8 (r.kind : Nat), .string r.cls, .int .u8 (r.state : Nat), .int .u8 (r.look.has : Nat), .int .u8 r.look.r, .int .u8 r.look.g, .int .u8 r.look.b, .int .u8 r.look.a, .int .u8 r.look.r2, .int .u8 r.look.g2, .int .u8 r.look.b2, .int .u8 r.look.a2, .bool r.look.bd, .int .i64 r.look.pad]), (Value.agg #[.int .u8 (r.kind : Nat), .string r.cls, .int .u8 (r.state : Nat), .int .u8 (r.look.has : Nat), .int .u8 r.look.r, .int .u8 r.look.g, .int .u8 r.look.b, .int .u8 r.look.a, .int .u8 r.look.r2, .int .u8 r.look.g2, .int .u8 r.look.b2, .int .u8 r.look.a2, .bool r.look.bd, .int .i64 r.look.pad])] w fun e w' => e = .returned (.bool true) ∧ Below w.heap.size w w' := by
  have hK : Hid (∀ w, Calls Tryd.prog 49 #[(Value.agg #[.int .u8 (r.look.has : Nat), .int .u8 r.look.r, .int .u8 r.look.g, .int .u8 r.look.b, .int .u8 r.look.a, .int .u8 r.look.r2, .int .u8 r.look.g2, .int .u8 r.look.b2, .int .u8 r.look.a2, .bool r.look.bd, .int .i64 r.look.pad]), (Value.agg #[.int .u8 (r.look.has : Nat), .int .u8 r.look.r, .int .u8 r.look.g, .int .u8 r.look.b, .int .u8 r.look.a, .int .u8 r.look.r2, .int .u8 r.look.g2, .int .u8 r.look.b2, .int .u8 r.look.a2, .bool r.look.bd, .int .i64 r.look.pad])] w fun e w' => e = .returned (.bool true) ∧ Below w.heap.size w w') := fun w => sameLook_any _ w
  go_enter Tryd.func33, Tryd.ntmps33
  go_wp2_with fail
  have L : Below w.heap.size w ((w.alloc (.cells (#[.int .u8 (r.kind : Nat), .string r.cls, .int .u8 (r.state : Nat), .int .u8 (r.look.has : Nat), .int .u8 r.look.r, .int .u8 r.look.g, .int .u8 r.look.b, .int .u8 r.look.a, .int .u8 r.look.r2, .int .u8 r.look.g2, .int .u8 r.look.b2, .int .u8 r.look.a2, .bool r.look.bd, .int .i64 r.look.pad]) 35)).alloc (.cells (#[.int .u8 (r.kind : Nat), .string r.cls, .int .u8 (r.state : Nat), .int .u8 (r.look.has : Nat), .int .u8 r.look.r, .int .u8 r.look.g, .int .u8 r.look.b, .int .u8 r.look.a, .int .u8 r.look.r2, .int .u8 r.look.g2, .int .u8 r.look.b2, .int .u8 r.look.a2, .bool r.look.bd, .int .i64 r.look.pad]) 35)) := ((Below.refl _ w).alloc (Nat.le_refl _) _).alloc (by simp) _
  refine (hK.out _).mono ?_
  rintro e w1 ⟨rfl, hb⟩
  have HL : Hid (Below w.heap.size w w1) := L.trans (hb.mono L.size)
  clear hb L
  go_wp2
  go_ret
  exact ⟨rfl, HL.out⟩

set_option maxHeartbeats 1000000 in
theorem same_any (rs : List Rl) (v u : Value) (w : World) (hv : Rules w v rs) (hu : Rules w u rs) (hl : rs.length < 1000000) :
    Calls Tryd.prog 12 #[v, u] w fun e w' => e = .returned (.bool true) ∧ Below w.heap.size w w' := by
  obtain ⟨oa, ca, rfl, hca, hga⟩ := hv
  obtain ⟨ob, cb, rfl, hcb, hgb⟩ := hu
  have HA : Hid (0 < rs.length → ∃ g o, oa = some ⟨g, o, none⟩ ∧ g < w.heap.size ∧ ∀ i (h : i < rs.length), RlAt w g (o + i * 14) rs[i]) := hga
  have HB : Hid (0 < rs.length → ∃ g o, ob = some ⟨g, o, none⟩ ∧ g < w.heap.size ∧ ∀ i (h : i < rs.length), RlAt w g (o + i * 14) rs[i]) := hgb
  clear hga hgb
  go_enter Tryd.func12, Tryd.ntmps12
  go_wp2_with fail
  go_loopw [5] (fun vi wr => ∃ k : Nat, k ≤ rs.length ∧ vi = .int .i64 k ∧ Hid (Below w.heap.size w wr)) (fun vi _ => rs.length - (intOf vi).toNat)
  case atStart => exact ⟨0, Nat.zero_le _, rfl, Below.refl _ _⟩
  case round =>
    obtain ⟨k, hk, rfl, HL⟩ := hrel
    by_cases hlt : k < rs.length
    · obtain ⟨g, o, rfl, hg, hat⟩ := HA.out (by omega)
      obtain ⟨g', o', rfl, hg', hat'⟩ := HB.out (by omega)
      have qx := fun t : Gw wr => (hat k hlt).kept (w' := t.wd) fun j => (HL.out.trans (t.below.mono HL.out.size)).cell (p := ⟨g, j, none⟩) hg
      have qy := fun t : Gw wr => (hat' k hlt).kept (w' := t.wd) fun j => (HL.out.trans (t.below.mono HL.out.size)).cell (p := ⟨g', j, none⟩) hg'
      have hS : Hid (∀ w, Calls Tryd.prog 33 #[(Value.agg #[.int .u8 (rs[k].kind : Nat), .string rs[k].cls, .int .u8 (rs[k].state : Nat), .int .u8 (rs[k].look.has : Nat), .int .u8 rs[k].look.r, .int .u8 rs[k].look.g, .int .u8 rs[k].look.b, .int .u8 rs[k].look.a, .int .u8 rs[k].look.r2, .int .u8 rs[k].look.g2, .int .u8 rs[k].look.b2, .int .u8 rs[k].look.a2, .bool rs[k].look.bd, .int .i64 rs[k].look.pad]), (Value.agg #[.int .u8 (rs[k].kind : Nat), .string rs[k].cls, .int .u8 (rs[k].state : Nat), .int .u8 (rs[k].look.has : Nat), .int .u8 rs[k].look.r, .int .u8 rs[k].look.g, .int .u8 rs[k].look.b, .int .u8 rs[k].look.a, .int .u8 rs[k].look.r2, .int .u8 rs[k].look.g2, .int .u8 rs[k].look.b2, .int .u8 rs[k].look.a2, .bool rs[k].look.bd, .int .i64 rs[k].look.pad])] w fun e w' => e = .returned (.bool true) ∧ Below w.heap.size w w') := fun w => sameRule_any _ w
      have ne := gw_ne HL.out
      have ik : (k : Int) < (rs.length : Int) := by omega
      clear hat hat'
      generalize rs[k] = X at *
      have x0 := fun t : Gw wr => (qx t).1
      have x1 := fun t : Gw wr => (qx t).2.1
      have x2 := fun t : Gw wr => (qx t).2.2.1
      have x3 := fun t : Gw wr => (qx t).2.2.2.1
      have x4 := fun t : Gw wr => (qx t).2.2.2.2.1
      have x5 := fun t : Gw wr => (qx t).2.2.2.2.2.1
      have x6 := fun t : Gw wr => (qx t).2.2.2.2.2.2.1
      have x7 := fun t : Gw wr => (qx t).2.2.2.2.2.2.2.1
      have x8 := fun t : Gw wr => (qx t).2.2.2.2.2.2.2.2.1
      have x9 := fun t : Gw wr => (qx t).2.2.2.2.2.2.2.2.2.1
      have x10 := fun t : Gw wr => (qx t).2.2.2.2.2.2.2.2.2.2.1
      have x11 := fun t : Gw wr => (qx t).2.2.2.2.2.2.2.2.2.2.2.1
      have x12 := fun t : Gw wr => (qx t).2.2.2.2.2.2.2.2.2.2.2.2.1
      have x13 := fun t : Gw wr => (qx t).2.2.2.2.2.2.2.2.2.2.2.2.2
      have y0 := fun t : Gw wr => (qy t).1
      have y1 := fun t : Gw wr => (qy t).2.1
      have y2 := fun t : Gw wr => (qy t).2.2.1
      have y3 := fun t : Gw wr => (qy t).2.2.2.1
      have y4 := fun t : Gw wr => (qy t).2.2.2.2.1
      have y5 := fun t : Gw wr => (qy t).2.2.2.2.2.1
      have y6 := fun t : Gw wr => (qy t).2.2.2.2.2.2.1
      have y7 := fun t : Gw wr => (qy t).2.2.2.2.2.2.2.1
      have y8 := fun t : Gw wr => (qy t).2.2.2.2.2.2.2.2.1
      have y9 := fun t : Gw wr => (qy t).2.2.2.2.2.2.2.2.2.1
      have y10 := fun t : Gw wr => (qy t).2.2.2.2.2.2.2.2.2.2.1
      have y11 := fun t : Gw wr => (qy t).2.2.2.2.2.2.2.2.2.2.2.1
      have y12 := fun t : Gw wr => (qy t).2.2.2.2.2.2.2.2.2.2.2.2.1
      have y13 := fun t : Gw wr => (qy t).2.2.2.2.2.2.2.2.2.2.2.2.2
      clear qx qy
      go_wp2_with fail
      refine wp_region_gw (by kernel_rfl) (by kernel_rfl) ?_
      repeat (go_big_quiet_step (first
        | (go_at_call 33; exact gw_call (hS.out _))))
      refine wpQuiet_nil ?_
      rintro _ ⟨t, rfl⟩
      go_wp2_with fail
      go_roundw
      case rel => exact ⟨k + 1, by omega, by go_num, HL.out.trans (t.below.mono HL.out.size)⟩
      case measure => simp [intOf]; omega
    · obtain rfl : k = rs.length := by omega
      go_wp2
      go_ret
      exact ⟨rfl, HL.out⟩

end Go.Proofs.YtobmpjmpffnoiaaDoor
