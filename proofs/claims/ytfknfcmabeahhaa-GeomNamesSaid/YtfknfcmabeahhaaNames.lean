/-
  The walk of the statement GeomNames: it answers true; of what was there nothing turns.
-/
import Derived.Test.YtfknfcmabeahhaaAl
import Derived.Test.YtfknfcmabeahhaaW8
namespace Go.Proofs.Ytfknfcmabeahhaa
open Go.RowKit

theorem i64_k (n : Int) (h : (decide (-100000 ≤ n) && decide (n ≤ 100000)) = true) : I64 n := by
  simp at h
  exact ⟨by omega, by omega⟩
theorem n1_check (w : World) : Calls Try.prog 9 #[.agg #[.int .i64 0, .int .i64 0, .int .i64 0, .int .i64 5]] w fun e w' => e = .returned (.int .i64 0) ∧ Below w.heap.size w w' := by
  have := check_any 0 0 0 5 w (i64_k _ rfl) (i64_k _ rfl)
  rw [show chk 0 0 0 5 = 0 from rfl] at this
  exact this
theorem n2_check (w : World) : Calls Try.prog 9 #[.agg #[.int .i64 0, .int .i64 0, .int .i64 (-1), .int .i64 5]] w fun e w' => e = .returned (.int .i64 5) ∧ Below w.heap.size w w' := by
  have := check_any 0 0 (-1) 5 w (i64_k _ rfl) (i64_k _ rfl)
  rw [show chk 0 0 (-1) 5 = 5 from rfl] at this
  exact this
theorem n3_check (w : World) : Calls Try.prog 9 #[.agg #[.int .i64 16385, .int .i64 0, .int .i64 1, .int .i64 1]] w fun e w' => e = .returned (.int .i64 5) ∧ Below w.heap.size w w' := by
  have := check_any 16385 0 1 1 w (i64_k _ rfl) (i64_k _ rfl)
  rw [show chk 16385 0 1 1 = 5 from rfl] at this
  exact this
theorem n4_check (w : World) : Calls Try.prog 9 #[.agg #[.int .i64 (-16384), .int .i64 (-16384), .int .i64 32768, .int .i64 32768]] w fun e w' => e = .returned (.int .i64 0) ∧ Below w.heap.size w w' := by
  have := check_any (-16384) (-16384) 32768 32768 w (i64_k _ rfl) (i64_k _ rfl)
  rw [show chk (-16384) (-16384) 32768 32768 = 0 from rfl] at this
  exact this
theorem n5_check (w : World) : Calls Try.prog 9 #[.agg #[.int .i64 1, .int .i64 0, .int .i64 16384, .int .i64 1]] w fun e w' => e = .returned (.int .i64 5) ∧ Below w.heap.size w w' := by
  have := check_any 1 0 16384 1 w (i64_k _ rfl) (i64_k _ rfl)
  rw [show chk 1 0 16384 1 = 5 from rfl] at this
  exact this
theorem n6_make (w : World) : Calls Try.prog 11 #[.agg #[.int .i64 5, .int .i64 1], .agg #[.int .i64 2, .int .i64 4]] w fun e w' => e = .returned (.tuple #[.agg #[.int .i64 2, .int .i64 1, .int .i64 3, .int .i64 3], .int .i64 0]) ∧ Below w.heap.size w w' := by
  have := make_any 5 1 2 4 w
  rw [show mkR 5 1 2 4 = ⟨2, 1, 3, 3⟩ from rfl] at this
  rw [show mkE 5 1 2 4 = 0 from rfl] at this
  exact this
theorem n7_make (w : World) : Calls Try.prog 11 #[.agg #[.int .i64 5, .int .i64 1], .agg #[.int .i64 5, .int .i64 4]] w fun e w' => e = .returned (.tuple #[.agg #[.int .i64 0, .int .i64 0, .int .i64 0, .int .i64 0], .int .i64 0]) ∧ Below w.heap.size w w' := by
  have := make_any 5 1 5 4 w
  rw [show mkR 5 1 5 4 = ⟨0, 0, 0, 0⟩ from rfl] at this
  rw [show mkE 5 1 5 4 = 0 from rfl] at this
  exact this
theorem n8_make (w : World) : Calls Try.prog 11 #[.agg #[.int .i64 (-16385), .int .i64 0], .agg #[.int .i64 1, .int .i64 1]] w fun e w' => e = .returned (.tuple #[.agg #[.int .i64 0, .int .i64 0, .int .i64 0, .int .i64 0], .int .i64 2]) ∧ Below w.heap.size w w' := by
  have := make_any (-16385) 0 1 1 w
  rw [show mkR (-16385) 0 1 1 = ⟨0, 0, 0, 0⟩ from rfl] at this
  rw [show mkE (-16385) 0 1 1 = 2 from rfl] at this
  exact this
theorem n9_empty (w : World) : Calls Try.prog 12 #[.agg #[.int .i64 3, .int .i64 3, .int .i64 0, .int .i64 5]] w fun e w' => e = .returned (.bool true) ∧ Below w.heap.size w w' := by
  have := empty_any 3 3 0 5 w (i64_k _ rfl) (i64_k _ rfl)
  rw [show emptyB 3 3 0 5 = true from rfl] at this
  exact this
theorem n10_has (w : World) : Calls Try.prog 13 #[.agg #[.int .i64 2, .int .i64 1, .int .i64 3, .int .i64 3], .agg #[.int .i64 4, .int .i64 3]] w fun e w' => e = .returned (.bool true) ∧ Below w.heap.size w w' := by
  have := has_any 2 1 3 3 4 3 w (i64_k _ rfl) (i64_k _ rfl)
  rw [show hasB 2 1 3 3 4 3 = true from rfl] at this
  exact this
theorem n11_has (w : World) : Calls Try.prog 13 #[.agg #[.int .i64 2, .int .i64 1, .int .i64 3, .int .i64 3], .agg #[.int .i64 5, .int .i64 3]] w fun e w' => e = .returned (.bool false) ∧ Below w.heap.size w w' := by
  have := has_any 2 1 3 3 5 3 w (i64_k _ rfl) (i64_k _ rfl)
  rw [show hasB 2 1 3 3 5 3 = false from rfl] at this
  exact this
theorem n12_in (w : World) : Calls Try.prog 14 #[.agg #[.int .i64 3, .int .i64 3, .int .i64 0, .int .i64 0], .agg #[.int .i64 0, .int .i64 0, .int .i64 1, .int .i64 1]] w fun e w' => e = .returned (.bool true) ∧ Below w.heap.size w w' := by
  have := in_any 3 3 0 0 0 0 1 1 w (i64_k _ rfl) (i64_k _ rfl) (i64_k _ rfl) (i64_k _ rfl)
  rw [show inB 3 3 0 0 0 0 1 1 = true from rfl] at this
  exact this
theorem n13_in (w : World) : Calls Try.prog 14 #[.agg #[.int .i64 0, .int .i64 0, .int .i64 2, .int .i64 2], .agg #[.int .i64 0, .int .i64 0, .int .i64 2, .int .i64 1]] w fun e w' => e = .returned (.bool false) ∧ Below w.heap.size w w' := by
  have := in_any 0 0 2 2 0 0 2 1 w (i64_k _ rfl) (i64_k _ rfl) (i64_k _ rfl) (i64_k _ rfl)
  rw [show inB 0 0 2 2 0 0 2 1 = false from rfl] at this
  exact this
theorem n14_over (w : World) : Calls Try.prog 15 #[.agg #[.int .i64 0, .int .i64 0, .int .i64 2, .int .i64 2], .agg #[.int .i64 2, .int .i64 0, .int .i64 2, .int .i64 2]] w fun e w' => e = .returned (.bool false) ∧ Below w.heap.size w w' := by
  have := over_any 0 0 2 2 2 0 2 2 w (i64_k _ rfl) (i64_k _ rfl) (i64_k _ rfl) (i64_k _ rfl)
  rw [show overB 0 0 2 2 2 0 2 2 = false from rfl] at this
  exact this
theorem n15_join (w : World) : Calls Try.prog 16 #[.agg #[.int .i64 0, .int .i64 0, .int .i64 1, .int .i64 1], .agg #[.int .i64 3, .int .i64 2, .int .i64 1, .int .i64 1]] w fun e w' => e = .returned (.agg #[.int .i64 0, .int .i64 0, .int .i64 4, .int .i64 3]) ∧ Below w.heap.size w w' := by
  have := join_any 0 0 1 1 3 2 1 1 w (i64_k _ rfl) (i64_k _ rfl) (i64_k _ rfl) (i64_k _ rfl)
  rw [show joinR 0 0 1 1 3 2 1 1 = ⟨0, 0, 4, 3⟩ from rfl] at this
  exact this
theorem n16_join (w : World) : Calls Try.prog 16 #[.agg #[.int .i64 5, .int .i64 5, .int .i64 0, .int .i64 3], .agg #[.int .i64 1, .int .i64 1, .int .i64 2, .int .i64 2]] w fun e w' => e = .returned (.agg #[.int .i64 1, .int .i64 1, .int .i64 2, .int .i64 2]) ∧ Below w.heap.size w w' := by
  have := join_any 5 5 0 3 1 1 2 2 w (i64_k _ rfl) (i64_k _ rfl) (i64_k _ rfl) (i64_k _ rfl)
  rw [show joinR 5 5 0 3 1 1 2 2 = ⟨1, 1, 2, 2⟩ from rfl] at this
  exact this
theorem n17_inset (w : World) : Calls Try.prog 17 #[.agg #[.int .i64 0, .int .i64 0, .int .i64 2, .int .i64 4], .int .i64 1] w fun e w' => e = .returned (.tuple #[.agg #[.int .i64 0, .int .i64 0, .int .i64 0, .int .i64 0], .int .i64 0]) ∧ Below w.heap.size w w' := by
  have := inset_any 0 0 2 4 1 w (i64_k _ rfl) (i64_k _ rfl)
  rw [show insR 0 0 2 4 1 = ⟨0, 0, 0, 0⟩ from rfl] at this
  rw [show insE 0 0 2 4 1 = 0 from rfl] at this
  exact this
theorem n18_inset (w : World) : Calls Try.prog 17 #[.agg #[.int .i64 0, .int .i64 0, .int .i64 2, .int .i64 2], .int .i64 (-1)] w fun e w' => e = .returned (.tuple #[.agg #[.int .i64 (-1), .int .i64 (-1), .int .i64 4, .int .i64 4], .int .i64 0]) ∧ Below w.heap.size w w' := by
  have := inset_any 0 0 2 2 (-1) w (i64_k _ rfl) (i64_k _ rfl)
  rw [show insR 0 0 2 2 (-1) = ⟨(-1), (-1), 4, 4⟩ from rfl] at this
  rw [show insE 0 0 2 2 (-1) = 0 from rfl] at this
  exact this
theorem n19_moved (w : World) : Calls Try.prog 18 #[.agg #[.int .i64 0, .int .i64 0, .int .i64 2, .int .i64 2], .agg #[.int .i64 16385, .int .i64 0]] w fun e w' => e = .returned (.tuple #[.agg #[.int .i64 0, .int .i64 0, .int .i64 0, .int .i64 0], .int .i64 9]) ∧ Below w.heap.size w w' := by
  have := moved_any 0 0 2 2 16385 0 w (i64_k _ rfl) (i64_k _ rfl)
  rw [show movR 0 0 2 2 16385 0 = ⟨0, 0, 0, 0⟩ from rfl] at this
  rw [show movE 0 0 2 2 16385 0 = 9 from rfl] at this
  exact this
theorem n20_moved (w : World) : Calls Try.prog 18 #[.agg #[.int .i64 5, .int .i64 5, .int .i64 0, .int .i64 2], .agg #[.int .i64 16385, .int .i64 0]] w fun e w' => e = .returned (.tuple #[.agg #[.int .i64 0, .int .i64 0, .int .i64 0, .int .i64 0], .int .i64 0]) ∧ Below w.heap.size w w' := by
  have := moved_any 5 5 0 2 16385 0 w (i64_k _ rfl) (i64_k _ rfl)
  rw [show movR 5 5 0 2 16385 0 = ⟨0, 0, 0, 0⟩ from rfl] at this
  rw [show movE 5 5 0 2 16385 0 = 0 from rfl] at this
  exact this
theorem n21_align (w : World) : Calls Try.prog 19 #[.agg #[.int .i64 0, .int .i64 0, .int .i64 10, .int .i64 4], .agg #[.int .i64 3, .int .i64 4], .int .u8 1, .int .u8 0] w fun e w' => e = .returned (.tuple #[.agg #[.int .i64 3, .int .i64 0, .int .i64 3, .int .i64 4], .int .i64 0]) ∧ Below w.heap.size w w' := by
  have := align_any 0 0 10 4 3 4 1 0 w (i64_k _ rfl) (i64_k _ rfl) (by omega) (by omega)
  rw [show aliR 0 0 10 4 3 4 1 0 = ⟨3, 0, 3, 4⟩ from rfl] at this
  rw [show aliE 0 0 10 4 3 4 1 0 = 0 from rfl] at this
  exact this
theorem n22_align (w : World) : Calls Try.prog 19 #[.agg #[.int .i64 0, .int .i64 0, .int .i64 2, .int .i64 2], .agg #[.int .i64 5, .int .i64 1], .int .u8 1, .int .u8 2] w fun e w' => e = .returned (.tuple #[.agg #[.int .i64 (-2), .int .i64 1, .int .i64 5, .int .i64 1], .int .i64 0]) ∧ Below w.heap.size w w' := by
  have := align_any 0 0 2 2 5 1 1 2 w (i64_k _ rfl) (i64_k _ rfl) (by omega) (by omega)
  rw [show aliR 0 0 2 2 5 1 1 2 = ⟨(-2), 1, 5, 1⟩ from rfl] at this
  rw [show aliE 0 0 2 2 5 1 1 2 = 0 from rfl] at this
  exact this
theorem n23_align (w : World) : Calls Try.prog 19 #[.agg #[.int .i64 0, .int .i64 0, .int .i64 2, .int .i64 2], .agg #[.int .i64 1, .int .i64 1], .int .u8 3, .int .u8 0] w fun e w' => e = .returned (.tuple #[.agg #[.int .i64 0, .int .i64 0, .int .i64 0, .int .i64 0], .int .i64 2]) ∧ Below w.heap.size w w' := by
  have := align_any 0 0 2 2 1 1 3 0 w (i64_k _ rfl) (i64_k _ rfl) (by omega) (by omega)
  rw [show aliR 0 0 2 2 1 1 3 0 = ⟨0, 0, 0, 0⟩ from rfl] at this
  rw [show aliE 0 0 2 2 1 1 3 0 = 2 from rfl] at this
  exact this

set_option maxRecDepth 100000 in
set_option maxHeartbeats 8000000 in
theorem names_walk (w : World) :
    Calls Try.prog 3 #[] w fun e w' => e = .returned (.bool true) ∧ Below w.heap.size w w' := by
  have L := Below.refl w.heap.size w
  go_enter Try.func3, Try.ntmps3
  go_wp2_with fail
  refine (r_any 0 0 0 5 _).mono ?_
  rintro e w1 ⟨rfl, hb⟩
  replace L := L.trans (hb.mono L.size)
  clear hb
  go_wp2_with fail
  refine (n1_check _).mono ?_
  rintro e w2 ⟨rfl, hb⟩
  replace L := L.trans (hb.mono L.size)
  clear hb
  go_wp2_with fail
  refine (r_any 0 0 (-1) 5 _).mono ?_
  rintro e w3 ⟨rfl, hb⟩
  replace L := L.trans (hb.mono L.size)
  clear hb
  go_wp2_with fail
  refine (n2_check _).mono ?_
  rintro e w4 ⟨rfl, hb⟩
  replace L := L.trans (hb.mono L.size)
  clear hb
  go_wp2_with fail
  refine (r_any 16385 0 1 1 _).mono ?_
  rintro e w5 ⟨rfl, hb⟩
  replace L := L.trans (hb.mono L.size)
  clear hb
  go_wp2_with fail
  refine (n3_check _).mono ?_
  rintro e w6 ⟨rfl, hb⟩
  replace L := L.trans (hb.mono L.size)
  clear hb
  go_wp2_with fail
  refine (r_any (-16384) (-16384) 32768 32768 _).mono ?_
  rintro e w7 ⟨rfl, hb⟩
  replace L := L.trans (hb.mono L.size)
  clear hb
  go_wp2_with fail
  refine (n4_check _).mono ?_
  rintro e w8 ⟨rfl, hb⟩
  replace L := L.trans (hb.mono L.size)
  clear hb
  go_wp2_with fail
  refine (r_any 1 0 16384 1 _).mono ?_
  rintro e w9 ⟨rfl, hb⟩
  replace L := L.trans (hb.mono L.size)
  clear hb
  go_wp2_with fail
  refine (n5_check _).mono ?_
  rintro e w10 ⟨rfl, hb⟩
  replace L := L.trans (hb.mono L.size)
  clear hb
  go_wp2_with fail
  refine (n6_make _).mono ?_
  rintro e w11 ⟨rfl, hb⟩
  replace L := L.trans (hb.mono L.size)
  clear hb
  go_wp2_with fail
  refine (n7_make _).mono ?_
  rintro e w12 ⟨rfl, hb⟩
  have Xa := (At4.new w11 2 1 3 3 29).below hb
  replace L := (L.alloc L.size _).trans (hb.mono (by have := L.size; simp; omega))
  clear hb
  go_wp2_with fail
  refine (n8_make _).mono ?_
  rintro e w13 ⟨rfl, hb⟩
  replace Xa := (Xa.alloc _).below hb
  have Xb := (At4.new w12 0 0 0 0 29).below hb
  replace L := (L.alloc L.size _).trans (hb.mono (by have := L.size; simp; omega))
  clear hb
  go_wp2_with fail
  replace Xa := Xa.alloc (.cells #[.int .i64 0, .int .i64 0, .int .i64 0, .int .i64 0] 29)
  replace Xb := Xb.alloc (.cells #[.int .i64 0, .int .i64 0, .int .i64 0, .int .i64 0] 29)
  replace L := L.alloc L.size (.cells #[.int .i64 0, .int .i64 0, .int .i64 0, .int .i64 0] 29)
  have kh1 : hasB 2 1 3 3 4 3 = true := rfl
  have kh2 : hasB 2 1 3 3 5 3 = false := rfl
  have ne := gw_ne L
  have xa0 := fun t => (gw4 Xa t).1
  have xa1 := fun t => (gw4 Xa t).2.1
  have xa2 := fun t => (gw4 Xa t).2.2.1
  have xa3 := fun t => (gw4 Xa t).2.2.2
  have xb0 := fun t => (gw4 Xb t).1
  have xb1 := fun t => (gw4 Xb t).2.1
  have xb2 := fun t => (gw4 Xb t).2.2.1
  have xb3 := fun t => (gw4 Xb t).2.2.2
  refine wp_region_gw (by kernel_rfl) (by kernel_rfl) ?_
  repeat (go_big_quiet_step (first
    | (go_at_call 10; exact gw_call (r_any _ _ _ _ _))
    | (go_at_call 12; exact gw_call (n9_empty _))
    | (go_at_call 13; exact gw_call (has_any _ _ _ _ _ _ _ (i64_k _ rfl) (i64_k _ rfl)))))
  refine wpQuiet_nil ?_
  rintro _ ⟨t14, rfl⟩
  clear kh1 kh2 ne xa0 xa1 xa2 xa3 xb0 xb1 xb2 xb3
  replace L := L.trans (t14.below.mono L.size)
  clear Xa Xb
  generalize t14.wd = w14 at *
  clear t14
  go_wp2_with fail
  refine (r_any 3 3 0 0 _).mono ?_
  rintro e w15 ⟨rfl, hb⟩
  replace L := L.trans (hb.mono L.size)
  clear hb
  go_wp2_with fail
  refine (r_any 0 0 1 1 _).mono ?_
  rintro e w16 ⟨rfl, hb⟩
  replace L := L.trans (hb.mono L.size)
  clear hb
  go_wp2_with fail
  refine (n12_in _).mono ?_
  rintro e w17 ⟨rfl, hb⟩
  replace L := L.trans (hb.mono L.size)
  clear hb
  go_wp2_with fail
  refine (r_any 0 0 2 2 _).mono ?_
  rintro e w18 ⟨rfl, hb⟩
  replace L := L.trans (hb.mono L.size)
  clear hb
  go_wp2_with fail
  refine (r_any 0 0 2 1 _).mono ?_
  rintro e w19 ⟨rfl, hb⟩
  replace L := L.trans (hb.mono L.size)
  clear hb
  go_wp2_with fail
  refine (n13_in _).mono ?_
  rintro e w20 ⟨rfl, hb⟩
  replace L := L.trans (hb.mono L.size)
  clear hb
  go_wp2_with fail
  refine (r_any 0 0 2 2 _).mono ?_
  rintro e w21 ⟨rfl, hb⟩
  replace L := L.trans (hb.mono L.size)
  clear hb
  go_wp2_with fail
  refine (r_any 2 0 2 2 _).mono ?_
  rintro e w22 ⟨rfl, hb⟩
  replace L := L.trans (hb.mono L.size)
  clear hb
  go_wp2_with fail
  refine (n14_over _).mono ?_
  rintro e w23 ⟨rfl, hb⟩
  replace L := L.trans (hb.mono L.size)
  clear hb
  go_wp2_with fail
  refine (r_any 0 0 1 1 _).mono ?_
  rintro e w24 ⟨rfl, hb⟩
  replace L := L.trans (hb.mono L.size)
  clear hb
  go_wp2_with fail
  refine (r_any 3 2 1 1 _).mono ?_
  rintro e w25 ⟨rfl, hb⟩
  replace L := L.trans (hb.mono L.size)
  clear hb
  go_wp2_with fail
  refine (n15_join _).mono ?_
  rintro e w26 ⟨rfl, hb⟩
  replace L := L.trans (hb.mono L.size)
  clear hb
  go_wp2_with fail
  refine (r_any 5 5 0 3 _).mono ?_
  rintro e w27 ⟨rfl, hb⟩
  replace L := L.trans (hb.mono L.size)
  clear hb
  go_wp2_with fail
  refine (r_any 1 1 2 2 _).mono ?_
  rintro e w28 ⟨rfl, hb⟩
  replace L := L.trans (hb.mono L.size)
  clear hb
  go_wp2_with fail
  refine (n16_join _).mono ?_
  rintro e w29 ⟨rfl, hb⟩
  replace L := L.trans (hb.mono L.size)
  clear hb
  go_wp2_with fail
  refine (r_any 0 0 2 4 _).mono ?_
  rintro e w30 ⟨rfl, hb⟩
  have Xc := ((At4.new w29 0 0 4 3 29).alloc _).below hb
  have Xd := (At4.new' (w29.alloc _) (w29.heap.size + 1) 1 1 2 2 29 (by simp)).below hb
  replace L := ((L.alloc L.size _).alloc (by have := L.size; simp; omega) _).trans (hb.mono (by have := L.size; simp; omega))
  clear hb
  go_wp2_with fail
  refine (n17_inset _).mono ?_
  rintro e w31 ⟨rfl, hb⟩
  replace Xc := Xc.below hb
  replace Xd := Xd.below hb
  replace L := L.trans (hb.mono L.size)
  clear hb
  go_wp2_with fail
  refine (r_any 0 0 2 2 _).mono ?_
  rintro e w32 ⟨rfl, hb⟩
  replace Xc := (Xc.alloc _).below hb
  replace Xd := (Xd.alloc _).below hb
  have Xk := (At4.new w31 0 0 0 0 29).below hb
  replace L := (L.alloc L.size _).trans (hb.mono (by have := L.size; simp; omega))
  clear hb
  go_wp2_with fail
  refine (n18_inset _).mono ?_
  rintro e w33 ⟨rfl, hb⟩
  replace Xc := Xc.below hb
  replace Xd := Xd.below hb
  replace Xk := Xk.below hb
  replace L := L.trans (hb.mono L.size)
  clear hb
  go_wp2_with fail
  refine (r_any 0 0 2 2 _).mono ?_
  rintro e w34 ⟨rfl, hb⟩
  replace Xc := (Xc.alloc _).below hb
  replace Xd := (Xd.alloc _).below hb
  replace Xk := (Xk.alloc _).below hb
  have Xm := (At4.new w33 (-1) (-1) 4 4 29).below hb
  replace L := (L.alloc L.size _).trans (hb.mono (by have := L.size; simp; omega))
  clear hb
  go_wp2_with fail
  refine (n19_moved _).mono ?_
  rintro e w35 ⟨rfl, hb⟩
  replace Xc := Xc.below hb
  replace Xd := Xd.below hb
  replace Xk := Xk.below hb
  replace Xm := Xm.below hb
  replace L := L.trans (hb.mono L.size)
  clear hb
  go_wp2_with fail
  refine (r_any 5 5 0 2 _).mono ?_
  rintro e w36 ⟨rfl, hb⟩
  replace Xc := (Xc.alloc _).below hb
  replace Xd := (Xd.alloc _).below hb
  replace Xk := (Xk.alloc _).below hb
  replace Xm := (Xm.alloc _).below hb
  replace L := (L.alloc L.size _).trans (hb.mono (by have := L.size; simp; omega))
  clear hb
  go_wp2_with fail
  refine (n20_moved _).mono ?_
  rintro e w37 ⟨rfl, hb⟩
  replace Xc := Xc.below hb
  replace Xd := Xd.below hb
  replace Xk := Xk.below hb
  replace Xm := Xm.below hb
  replace L := L.trans (hb.mono L.size)
  clear hb
  go_wp2_with fail
  refine (r_any 0 0 10 4 _).mono ?_
  rintro e w38 ⟨rfl, hb⟩
  replace Xc := (Xc.alloc _).below hb
  replace Xd := (Xd.alloc _).below hb
  replace Xk := (Xk.alloc _).below hb
  replace Xm := (Xm.alloc _).below hb
  have Xp := (At4.new w37 0 0 0 0 29).below hb
  replace L := (L.alloc L.size _).trans (hb.mono (by have := L.size; simp; omega))
  clear hb
  go_wp2_with fail
  refine (n21_align _).mono ?_
  rintro e w39 ⟨rfl, hb⟩
  replace Xc := Xc.below hb
  replace Xd := Xd.below hb
  replace Xk := Xk.below hb
  replace Xm := Xm.below hb
  replace Xp := Xp.below hb
  replace L := L.trans (hb.mono L.size)
  clear hb
  go_wp2_with fail
  refine (r_any 0 0 2 2 _).mono ?_
  rintro e w40 ⟨rfl, hb⟩
  replace Xc := (Xc.alloc _).below hb
  replace Xd := (Xd.alloc _).below hb
  replace Xk := (Xk.alloc _).below hb
  replace Xm := (Xm.alloc _).below hb
  replace Xp := (Xp.alloc _).below hb
  have Xs := (At4.new w39 3 0 3 4 29).below hb
  replace L := (L.alloc L.size _).trans (hb.mono (by have := L.size; simp; omega))
  clear hb
  go_wp2_with fail
  refine (n22_align _).mono ?_
  rintro e w41 ⟨rfl, hb⟩
  replace Xc := Xc.below hb
  replace Xd := Xd.below hb
  replace Xk := Xk.below hb
  replace Xm := Xm.below hb
  replace Xp := Xp.below hb
  replace Xs := Xs.below hb
  replace L := L.trans (hb.mono L.size)
  clear hb
  go_wp2_with fail
  refine (r_any 0 0 2 2 _).mono ?_
  rintro e w42 ⟨rfl, hb⟩
  replace Xc := (Xc.alloc _).below hb
  replace Xd := (Xd.alloc _).below hb
  replace Xk := (Xk.alloc _).below hb
  replace Xm := (Xm.alloc _).below hb
  replace Xp := (Xp.alloc _).below hb
  replace Xs := (Xs.alloc _).below hb
  have Xu := (At4.new w41 (-2) 1 5 1 29).below hb
  replace L := (L.alloc L.size _).trans (hb.mono (by have := L.size; simp; omega))
  clear hb
  go_wp2_with fail
  refine (n23_align _).mono ?_
  rintro e w43 ⟨rfl, hb⟩
  replace Xc := Xc.below hb
  replace Xd := Xd.below hb
  replace Xk := Xk.below hb
  replace Xm := Xm.below hb
  replace Xp := Xp.below hb
  replace Xs := Xs.below hb
  replace Xu := Xu.below hb
  replace L := L.trans (hb.mono L.size)
  clear hb
  go_wp2_with fail
  replace Xc := Xc.alloc (.cells #[.int .i64 0, .int .i64 0, .int .i64 0, .int .i64 0] 29)
  replace Xd := Xd.alloc (.cells #[.int .i64 0, .int .i64 0, .int .i64 0, .int .i64 0] 29)
  replace Xk := Xk.alloc (.cells #[.int .i64 0, .int .i64 0, .int .i64 0, .int .i64 0] 29)
  replace Xm := Xm.alloc (.cells #[.int .i64 0, .int .i64 0, .int .i64 0, .int .i64 0] 29)
  replace Xp := Xp.alloc (.cells #[.int .i64 0, .int .i64 0, .int .i64 0, .int .i64 0] 29)
  replace Xs := Xs.alloc (.cells #[.int .i64 0, .int .i64 0, .int .i64 0, .int .i64 0] 29)
  replace Xu := Xu.alloc (.cells #[.int .i64 0, .int .i64 0, .int .i64 0, .int .i64 0] 29)
  replace L := L.alloc L.size (.cells #[.int .i64 0, .int .i64 0, .int .i64 0, .int .i64 0] 29)
  have ne := gw_ne L
  have xc0 := fun t => (gw4 Xc t).1
  have xc1 := fun t => (gw4 Xc t).2.1
  have xc2 := fun t => (gw4 Xc t).2.2.1
  have xc3 := fun t => (gw4 Xc t).2.2.2
  have xd0 := fun t => (gw4 Xd t).1
  have xd1 := fun t => (gw4 Xd t).2.1
  have xd2 := fun t => (gw4 Xd t).2.2.1
  have xd3 := fun t => (gw4 Xd t).2.2.2
  have xk0 := fun t => (gw4 Xk t).1
  have xk1 := fun t => (gw4 Xk t).2.1
  have xk2 := fun t => (gw4 Xk t).2.2.1
  have xk3 := fun t => (gw4 Xk t).2.2.2
  have xm0 := fun t => (gw4 Xm t).1
  have xm1 := fun t => (gw4 Xm t).2.1
  have xm2 := fun t => (gw4 Xm t).2.2.1
  have xm3 := fun t => (gw4 Xm t).2.2.2
  have xp0 := fun t => (gw4 Xp t).1
  have xp1 := fun t => (gw4 Xp t).2.1
  have xp2 := fun t => (gw4 Xp t).2.2.1
  have xp3 := fun t => (gw4 Xp t).2.2.2
  refine wp_region_gw (by kernel_rfl) (by kernel_rfl) ?_
  repeat (go_big_quiet_step (first
    | (go_at_call 10; exact gw_call (r_any _ _ _ _ _))))
  refine wpQuiet_nil ?_
  rintro _ ⟨t44, rfl⟩
  clear ne xc0 xc1 xc2 xc3 xd0 xd1 xd2 xd3 xk0 xk1 xk2 xk3 xm0 xm1 xm2 xm3 xp0 xp1 xp2 xp3
  replace Xs := gw4 Xs t44
  replace Xu := gw4 Xu t44
  replace L := L.trans (t44.below.mono L.size)
  clear Xc Xd Xk Xm Xp
  generalize t44.wd = w44 at *
  clear t44
  go_wp2_with fail
  have ne := gw_ne L
  have xs0 := fun t => (gw4 Xs t).1
  have xs1 := fun t => (gw4 Xs t).2.1
  have xs2 := fun t => (gw4 Xs t).2.2.1
  have xs3 := fun t => (gw4 Xs t).2.2.2
  have xu0 := fun t => (gw4 Xu t).1
  have xu1 := fun t => (gw4 Xu t).2.1
  have xu2 := fun t => (gw4 Xu t).2.2.1
  have xu3 := fun t => (gw4 Xu t).2.2.2
  refine wp_region_gw (by kernel_rfl) (by kernel_rfl) ?_
  repeat (go_big_quiet_step (first
    | (go_at_call 10; exact gw_call (r_any _ _ _ _ _))
    | (go_at_call 20; exact gw_call (alive_any _))))
  refine wpQuiet_nil ?_
  rintro _ ⟨t45, rfl⟩
  clear ne xs0 xs1 xs2 xs3 xu0 xu1 xu2 xu3
  replace L := L.trans (t45.below.mono L.size)
  clear Xs Xu
  generalize t45.wd = w45 at *
  clear t45
  go_wp2
  go_ret
  exact ⟨rfl, L⟩

end Go.Proofs.Ytfknfcmabeahhaa
