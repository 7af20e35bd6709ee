/-
  Contracts of package style: the function that compares two numbers of rules.
-/
import Derived.Test.YtobmpjmpffnoiaaDoorSW4
import Derived.Test.YtobmpjmpffnoiaaDoorSO5
namespace Go.Proofs.YtobmpjmpffnoiaaDoor
open Go.RowKit Go.Shelf

set_option maxHeartbeats 400000 in
theorem isNaN_any (x : Int) (w : World) : Calls Tryd.prog 60 #[.int .i64 x] w fun e w' => e = .returned (.bool false) ∧ w' = w := by
  go_enter Tryd.func60, Tryd.ntmps60
  go_wp2
  go_ret
  exact ⟨by simp, rfl⟩

set_option maxHeartbeats 400000 in
theorem compare_any (x y : Int) (w : World) : Calls Tryd.prog 47 #[.int .i64 x, .int .i64 y] w fun e w' => e = .returned (.int .i64 (if x < y then -1 else if y < x then 1 else 0)) ∧ w' = w := by
  by_cases h1 : x < y
  · rw [if_pos h1]
    go_enter Tryd.func47, Tryd.ntmps47
    go_wp2_with (go_at_call 60; refine (isNaN_any _ _).mono ?_; rintro e w1 ⟨rfl, rfl⟩)
    go_ret
    exact ⟨rfl, rfl⟩
  · rw [if_neg h1]
    by_cases h2 : y < x
    · rw [if_pos h2]
      go_enter Tryd.func47, Tryd.ntmps47
      go_wp2_with (go_at_call 60; refine (isNaN_any _ _).mono ?_; rintro e w1 ⟨rfl, rfl⟩)
      go_ret
      exact ⟨rfl, rfl⟩
    · rw [if_neg h2]
      go_enter Tryd.func47, Tryd.ntmps47
      go_wp2_with (go_at_call 60; refine (isNaN_any _ _).mono ?_; rintro e w1 ⟨rfl, rfl⟩)
      go_ret
      exact ⟨rfl, rfl⟩

/-- How strong the rule with a number is. -/
def str (rs : List Rl) (k : Nat) : Int := match rs[k]? with | some r => strg r | none => 0
theorem str_at {rs : List Rl} {k : Nat} (h : k < rs.length) : str rs k = strg rs[k] := by
  unfold str; rw [List.getElem?_eq_getElem h]

set_option maxHeartbeats 1000000 in
theorem closure_any (rs : List Rl) (v : Value) (Lb : Nat) (x y : Nat) (w : World) (hv : Rules w v rs) (hL : w.cell? ⟨Lb, 0, none⟩ = some v) (hs : ∀ r ∈ rs, r.state < 256) (hx : x < rs.length) (hy : y < rs.length) (hn : rs.length < 1000000) :
    Calls Tryd.prog 46 #[.int .i64 x, .int .i64 y, .pointer (some ⟨Lb, 0, none⟩)] w fun e w' => e = .returned (.int .i64 (if str rs x < str rs y then -1 else if str rs y < str rs x then 1 else 0)) ∧ Below w.heap.size w w' := by
  have HS : Hid (∀ (k : Nat) (h : k < rs.length) w, Calls Tryd.prog 48 #[(Value.agg #[.int .u8 (rs[k].kind : Nat), .string rs[k].cls, .int .u8 (rs[k].state : Nat), .int .u8 (rs[k].look.has : Nat), .int .u8 rs[k].look.r, .int .u8 rs[k].look.g, .int .u8 rs[k].look.b, .int .u8 rs[k].look.a, .int .u8 rs[k].look.r2, .int .u8 rs[k].look.g2, .int .u8 rs[k].look.b2, .int .u8 rs[k].look.a2, .bool rs[k].look.bd, .int .i64 rs[k].look.pad])] w fun e w' => e = .returned (.int .i64 (str rs k)) ∧ Below w.heap.size w w') := fun k h w => by
    rw [str_at h]; exact strength_any _ w (hs _ (List.getElem_mem h))
  obtain ⟨oa, cap, rfl, hc, hg⟩ := hv
  obtain ⟨g, o, rfl, hg, hat⟩ := hg (by omega)
  have qx := fun t : Gw w => (hat x hx).kept (w' := t.wd) fun j => t.below.cell (p := ⟨g, j, none⟩) hg
  have qy := fun t : Gw w => (hat y hy).kept (w' := t.wd) fun j => t.below.cell (p := ⟨g, j, none⟩) hg
  have ql := fun t : Gw w => (t.below.cell (p := ⟨Lb, 0, none⟩) (lt_of_cell hL)).trans hL
  have S1 : Hid (∀ w, Calls Tryd.prog 48 #[(Value.agg #[.int .u8 (rs[x].kind : Nat), .string rs[x].cls, .int .u8 (rs[x].state : Nat), .int .u8 (rs[x].look.has : Nat), .int .u8 rs[x].look.r, .int .u8 rs[x].look.g, .int .u8 rs[x].look.b, .int .u8 rs[x].look.a, .int .u8 rs[x].look.r2, .int .u8 rs[x].look.g2, .int .u8 rs[x].look.b2, .int .u8 rs[x].look.a2, .bool rs[x].look.bd, .int .i64 rs[x].look.pad])] w fun e w' => e = .returned (.int .i64 (str rs x)) ∧ Below w.heap.size w w') := HS.out x hx
  have S2 : Hid (∀ w, Calls Tryd.prog 48 #[(Value.agg #[.int .u8 (rs[y].kind : Nat), .string rs[y].cls, .int .u8 (rs[y].state : Nat), .int .u8 (rs[y].look.has : Nat), .int .u8 rs[y].look.r, .int .u8 rs[y].look.g, .int .u8 rs[y].look.b, .int .u8 rs[y].look.a, .int .u8 rs[y].look.r2, .int .u8 rs[y].look.g2, .int .u8 rs[y].look.b2, .int .u8 rs[y].look.a2, .bool rs[y].look.bd, .int .i64 rs[y].look.pad])] w fun e w' => e = .returned (.int .i64 (str rs y)) ∧ Below w.heap.size w w') := HS.out y hy
  have S3 : Hid (∀ w, Calls Tryd.prog 47 #[.int .i64 (str rs x), .int .i64 (str rs y)] w fun e w' => e = .returned (.int .i64 (if str rs x < str rs y then -1 else if str rs y < str rs x then 1 else 0)) ∧ w' = w) := fun w => compare_any _ _ w
  have lx : (x : Int) < (rs.length : Int) := by omega
  have ly : (y : Int) < (rs.length : Int) := by omega
  clear HS hat hs
  generalize (if str rs x < str rs y then (-1 : Int) else if str rs y < str rs x then 1 else 0) = V at *
  generalize str rs x = u1 at *
  generalize str rs y = u2 at *
  generalize rs[x] = X at *
  generalize rs[y] = Y at *
  have x0 := fun t : Gw w => (qx t).1
  have x1 := fun t : Gw w => (qx t).2.1
  have x2 := fun t : Gw w => (qx t).2.2.1
  have x3 := fun t : Gw w => (qx t).2.2.2.1
  have x4 := fun t : Gw w => (qx t).2.2.2.2.1
  have x5 := fun t : Gw w => (qx t).2.2.2.2.2.1
  have x6 := fun t : Gw w => (qx t).2.2.2.2.2.2.1
  have x7 := fun t : Gw w => (qx t).2.2.2.2.2.2.2.1
  have x8 := fun t : Gw w => (qx t).2.2.2.2.2.2.2.2.1
  have x9 := fun t : Gw w => (qx t).2.2.2.2.2.2.2.2.2.1
  have x10 := fun t : Gw w => (qx t).2.2.2.2.2.2.2.2.2.2.1
  have x11 := fun t : Gw w => (qx t).2.2.2.2.2.2.2.2.2.2.2.1
  have x12 := fun t : Gw w => (qx t).2.2.2.2.2.2.2.2.2.2.2.2.1
  have x13 := fun t : Gw w => (qx t).2.2.2.2.2.2.2.2.2.2.2.2.2
  have y0 := fun t : Gw w => (qy t).1
  have y1 := fun t : Gw w => (qy t).2.1
  have y2 := fun t : Gw w => (qy t).2.2.1
  have y3 := fun t : Gw w => (qy t).2.2.2.1
  have y4 := fun t : Gw w => (qy t).2.2.2.2.1
  have y5 := fun t : Gw w => (qy t).2.2.2.2.2.1
  have y6 := fun t : Gw w => (qy t).2.2.2.2.2.2.1
  have y7 := fun t : Gw w => (qy t).2.2.2.2.2.2.2.1
  have y8 := fun t : Gw w => (qy t).2.2.2.2.2.2.2.2.1
  have y9 := fun t : Gw w => (qy t).2.2.2.2.2.2.2.2.2.1
  have y10 := fun t : Gw w => (qy t).2.2.2.2.2.2.2.2.2.2.1
  have y11 := fun t : Gw w => (qy t).2.2.2.2.2.2.2.2.2.2.2.1
  have y12 := fun t : Gw w => (qy t).2.2.2.2.2.2.2.2.2.2.2.2.1
  have y13 := fun t : Gw w => (qy t).2.2.2.2.2.2.2.2.2.2.2.2.2
  clear qx qy
  have L : Below w.heap.size w w := Below.refl _ _
  have ne := gw_ne L
  clear L
  go_enter Tryd.func46, Tryd.ntmps46
  go_wp2_with fail
  refine wp_region_gw (by kernel_rfl) (by kernel_rfl) ?_
  repeat (go_big_quiet_step (first
    | (go_at_call_of 48 (Value.string X.cls); exact gw_call (S1.out _))
    | (go_at_call_of 48 (Value.string Y.cls); exact gw_call (S2.out _))
    | (go_at_call 47; exact gw_same (S3.out _))))
  refine wpQuiet_nil ?_
  rintro _ ⟨t, rfl⟩
  go_wp2
  go_ret
  exact ⟨rfl, t.below⟩

end Go.Proofs.YtobmpjmpffnoiaaDoor
