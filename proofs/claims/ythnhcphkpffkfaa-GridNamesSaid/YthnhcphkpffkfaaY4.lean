/-
  GridNames: the limits, the errors, as many things as may be. (y4gen.py writes it.)
-/
import Derived.Test.YthnhcphkpffkfaaYY3
namespace Go.Proofs.Ythnhcphkpffkfaa
open Go.RowKit

def mk0 : Array Value := (flatI (List.replicate 1025 0)).toArray
theorem make_mk0 (W : World) : (Instr.makeSlice 23 (.int .i64 1025) (.int .i64 1025)).run Try.prog W = .ok (.slice (some ⟨W.heap.size, 0, none⟩) 1025 1025) (W.alloc (.cells mk0 3)) := make_intsA 1025 (by omega) W
theorem is_all {w : World} {b : Nat} (h : Bk w b mk0 3) : IS w (.slice (some ⟨b, 0, none⟩) 1025 1025) (List.replicate 1025 0) := by
  have k := is_bk (xs := List.replicate 1025 0) h
  rwa [List.length_replicate] at k
theorem is_many {w : World} {b : Nat} (h : Bk w b mk0 3) : IS w (.slice (some ⟨b, 0, none⟩) 1024 1025) (List.replicate 1024 0) := by
  have k := (is_all h).cut (m := 1024) (List.length_replicate) (by omega)
  rwa [List.take_replicate] at k
theorem rep_in (n : Nat) (x : Int) (p : Int → Bool) (h : p x = true) : (List.replicate n x).all p = true := by
  rw [List.all_eq_true]
  intro y hy
  rw [(List.mem_replicate.1 hy).2]
  exact h
theorem eaC_many : eaC (List.replicate 1024 0) 64 = 0 := by
  unfold eaC
  rw [List.length_replicate, if_neg (by omega), if_pos (rep_in _ _ _ (by decide))]
theorem eaC_more (m : Int) : eaC (List.replicate 1025 0) m = 4 := by
  unfold eaC
  rw [List.length_replicate, if_pos (by omega)]
theorem many_cells (W : World) (v : Value) (h : IS W v (List.replicate 1024 0)) : Calls Try.prog 8 #[v, .int .i64 64] W fun e w' => ∃ u, e = .returned (.tuple #[u, .int .i64 0]) ∧ Hid (OwK 40 2 fP W.heap.size w' u (cel 64 (List.replicate 1024 0)) ∧ Below W.heap.size W w') := by
  have k := Cells_any (List.replicate 1024 0) 64 v W h
  have e1 : ceE (List.replicate 1024 0) 64 = 0 := by unfold ceE; rw [eaC_many]; rfl
  have e2 : ceL (List.replicate 1024 0) 64 = cel 64 (List.replicate 1024 0) := by unfold ceL; rw [if_pos e1]; rfl
  rwa [e1, e2] at k
theorem more_cells (W : World) (v : Value) (h : IS W v (List.replicate 1025 0)) : Calls Try.prog 8 #[v, .int .i64 64] W fun e w' => ∃ u, e = .returned (.tuple #[u, .int .i64 4]) ∧ Hid (Below W.heap.size W w') := by
  refine (Cells_any (List.replicate 1025 0) 64 v W h).mono ?_
  rintro e w' ⟨u, rfl, H⟩
  have e1 : ceE (List.replicate 1025 0) 64 = 4 := by unfold ceE; rw [eaC_more]; rfl
  rw [e1]
  exact ⟨u, rfl, H.out.2⟩
theorem more_widths (W : World) (v y : Value) (h : IS W v []) (k : IS W y (List.replicate 1025 0)) : Calls Try.prog 9 #[v, y, .int .i64 1, .int .i64 0] W fun e w' => ∃ u, e = .returned (.tuple #[u, .int .i64 4]) ∧ Hid (Below W.heap.size W w') := by
  refine (Widths_any [] (List.replicate 1025 0) 1 0 v y W h k).mono ?_
  rintro e w' ⟨u, rfl, H⟩
  have e0 : wiE0 [] (List.replicate 1025 0) 1 0 = 4 := by unfold wiE0; rw [eaC_more]; rfl
  have e1 : wiE [] (List.replicate 1025 0) 1 0 = 4 := by unfold wiE; rw [e0, if_neg (by omega)]
  rw [e1]
  exact ⟨u, rfl, H.out.2⟩
theorem wide_ok : wiE [64, 63] [16384, 0] 64 16384 = 0 := by kernel_rfl
theorem wide_widths (W : World) (v y : Value) (h : IS W v [64, 63]) (k : IS W y [16384, 0]) : Calls Try.prog 9 #[v, y, .int .i64 64, .int .i64 16384] W fun e w' => ∃ u, e = .returned (.tuple #[u, .int .i64 0]) ∧ Hid (OwI W.heap.size w' u (wsG 64 16384 (cel 64 [64, 63]) [16384, 0]) ∧ Below W.heap.size W w') := by
  have q := Widths_any [64, 63] [16384, 0] 64 16384 v y W h k
  have e2 : wiL [64, 63] [16384, 0] 64 16384 = wsG 64 16384 (cel 64 [64, 63]) [16384, 0] := by unfold wiL; rw [if_pos wide_ok]; rfl
  rwa [wide_ok, e2] at q
theorem wide_len : (wsG 64 16384 (cel 64 [64, 63]) [16384, 0]).length = 64 := wsG_len _ _ _ _
theorem wide_zero : (wsG 64 16384 (cel 64 [64, 63]) [16384, 0])[63]'(by rw [wide_len]; omega) = 0 := by
  have hG : Gri 64 16384 (cel 64 [64, 63]) [16384, 0] := gri_of wide_ok
  have hr : ∀ k, smL ((List.replicate 64 (0 : Int)).take k) = 0 := fun k => by
    rw [List.take_replicate]
    generalize min k 64 = j
    induction j with
    | zero => rfl
    | succ j ih => rw [List.replicate_succ]; simp only [smL]; omega
  have hC : cel 64 [64, 63] = [⟨0, 0, 64⟩, ⟨0, 1, 63⟩] := by kernel_rfl
  have hl := grid_least hG (o := List.replicate 64 0) List.length_replicate (fun x hx => by rw [(List.mem_replicate.1 hx).2]; exact Int.le_refl _) (fun i h1 h2 => by
    rw [hr, hr]
    have h2' : i < 2 := h2
    have : i = 0 ∨ i = 1 := by omega
    rcases this with rfl | rfl
    · simp [hC]
    · simp [hC]) (j := 64) (Nat.le_refl _)
  rw [hr] at hl
  have hw := wsG_ok wide_ok
  have hw2 : ∀ x ∈ wsG 64 16384 (cel 64 [64, 63]) [16384, 0], 0 ≤ x ∧ x ≤ 16384 := hw.2
  have h63 := hw2 _ (List.getElem_mem (l := wsG 64 16384 (cel 64 [64, 63]) [16384, 0]) (n := 63) (by rw [wide_len]; omega))
  have hs : smL ((wsG 64 16384 (cel 64 [64, 63]) [16384, 0]).take 64) = smL ((wsG 64 16384 (cel 64 [64, 63]) [16384, 0]).take 63) + (wsG 64 16384 (cel 64 [64, 63]) [16384, 0])[63]'(by rw [wide_len]; omega) := smL_take (l := wsG 64 16384 (cel 64 [64, 63]) [16384, 0]) (i := 63) (by rw [wide_len]; omega)
  have hn := smL_nn (l := (wsG 64 16384 (cel 64 [64, 63]) [16384, 0]).take 63) fun x hx => (hw2 x (List.mem_of_mem_take hx)).1
  omega
theorem wide_at {w : World} {wb wf : Nat} (h : ∀ i (h : i < (wsG 64 16384 (cel 64 [64, 63]) [16384, 0]).length), w.cell? ⟨wb, wf + i, none⟩ = some (.int .i64 (wsG 64 16384 (cel 64 [64, 63]) [16384, 0])[i])) : w.cell? ⟨wb, wf + 63, none⟩ = some (.int .i64 0) := by
  rw [h 63 (by rw [wide_len]; omega), wide_zero]
theorem many_len : (cel 64 (List.replicate 1024 0)).length = 1024 := by rw [cel_len, List.length_replicate]
theorem many_step : ∀ i, celX 64 0 0 (List.replicate (i + 1) 0) = i % 64 + 1 ∧ celY 64 0 0 (List.replicate (i + 1) 0) = i / 64
  | 0 => by decide
  | i + 1 => by
    obtain ⟨h1, h2⟩ := many_step i
    have e : List.replicate (i + 1 + 1) (0 : Int) = List.replicate (i + 1) 0 ++ [0] := by rw [List.replicate_succ']
    rw [e, celX_snoc, celY_snoc, h1, h2]
    have hw : wdN 64 0 = 1 := by decide
    unfold nxC
    rw [hw]
    split <;> simp <;> omega
theorem many_last : (cel 64 (List.replicate 1024 0))[1023]'(by rw [many_len]; omega) = ⟨63, 15, 1⟩ := by
  have e := cel_at_take (n := 64) (l := List.replicate 1024 0) (i := 1023) (by rw [List.length_replicate]; omega)
  rw [e, List.take_replicate]
  have h := many_step 1022
  rw [show min 1023 1024 = 1022 + 1 from rfl, h.1, h.2, List.getElem_replicate]
  rfl
theorem many_at {w : World} {cb cf : Nat} (h : ∀ i (h : i < (cel 64 (List.replicate 1024 0)).length) j, j < 2 → w.cell? ⟨cb, cf + i * 2 + j, none⟩ = some (.int .i64 ((fP (cel 64 (List.replicate 1024 0))[i]).getD j 0))) : w.cell? ⟨cb, cf + 2046, none⟩ = some (.int .i64 63) ∧ w.cell? ⟨cb, cf + 2047, none⟩ = some (.int .i64 15) := by
  have h0 := h 1023 (by rw [many_len]; omega) 0 (by omega)
  have h1 := h 1023 (by rw [many_len]; omega) 1 (by omega)
  rw [many_last] at h0 h1
  exact ⟨h0, h1⟩

set_option maxRecDepth 10000 in
set_option maxHeartbeats 8000000 in
theorem gnames_walk (w : World) : Calls Try.prog 3 #[] w fun e w' => e = .returned (.bool true) ∧ Below w.heap.size w w' := by
  have HB : Hid (Below w.heap.size w w) := Below.refl _ _
  have hmk := make_mk0
  have HAl : Hid (∀ W, Calls Try.prog 7 #[] W fun e w' => e = .returned (.bool true) ∧ Below W.heap.size W w') := alive_grid
  have HL1 : Hid (∀ W v, IS W v (List.replicate 1024 0) → Calls Try.prog 8 #[v, .int .i64 64] W fun e w' => ∃ u, e = .returned (.tuple #[u, .int .i64 0]) ∧ Hid (OwK 40 2 fP W.heap.size w' u (cel 64 (List.replicate 1024 0)) ∧ Below W.heap.size W w')) := fun W v h => many_cells W v h
  have HL2 : Hid (∀ W v, IS W v (List.replicate 1025 0) → Calls Try.prog 8 #[v, .int .i64 64] W fun e w' => ∃ u, e = .returned (.tuple #[u, .int .i64 4]) ∧ Hid (Below W.heap.size W w')) := fun W v h => more_cells W v h
  have HL3 : Hid (∀ W v y, IS W v [] → IS W y (List.replicate 1025 0) → Calls Try.prog 9 #[v, y, .int .i64 1, .int .i64 0] W fun e w' => ∃ u, e = .returned (.tuple #[u, .int .i64 4]) ∧ Hid (Below W.heap.size W w')) := fun W v y h k => more_widths W v y h k
  have H1 : Hid (∀ W v, IS W v [64] → Calls Try.prog 8 #[v, .int .i64 64] W fun e w' => ∃ u, e = .returned (.tuple #[u, .int .i64 0]) ∧ Hid (Below W.heap.size W w')) := fun W v h => by
    refine (Cells_any [64] 64 v W h).mono ?_
    rintro e w' ⟨u, rfl, H⟩
    rw [show ceE [64] 64 = 0 by kernel_rfl]
    exact ⟨u, rfl, H.out.2⟩
  have H2 : Hid (∀ W v, IS W v [65] → Calls Try.prog 8 #[v, .int .i64 64] W fun e w' => ∃ u, e = .returned (.tuple #[u, .int .i64 2]) ∧ Hid (Below W.heap.size W w')) := fun W v h => by
    refine (Cells_any [65] 64 v W h).mono ?_
    rintro e w' ⟨u, rfl, H⟩
    rw [show ceE [65] 64 = 2 by kernel_rfl]
    exact ⟨u, rfl, H.out.2⟩
  have H3 : Hid (∀ W v, IS W v [] → Calls Try.prog 8 #[v, .int .i64 65] W fun e w' => ∃ u, e = .returned (.tuple #[u, .int .i64 2]) ∧ Hid (Below W.heap.size W w')) := fun W v h => by
    refine (Cells_any [] 65 v W h).mono ?_
    rintro e w' ⟨u, rfl, H⟩
    rw [show ceE [] 65 = 2 by kernel_rfl]
    exact ⟨u, rfl, H.out.2⟩
  have H4 : Hid (∀ W v y, IS W v [1] → IS W y [] → Calls Try.prog 9 #[v, y, .int .i64 1, .int .i64 16384] W fun e w' => ∃ u, e = .returned (.tuple #[u, .int .i64 110]) ∧ Hid (Below W.heap.size W w')) := fun W v y h k => by
    refine (Widths_any [1] [] 1 16384 v y W h k).mono ?_
    rintro e w' ⟨u, rfl, H⟩
    rw [show wiE [1] [] 1 16384 = 110 by kernel_rfl]
    exact ⟨u, rfl, H.out.2⟩
  have H5 : Hid (∀ W v y, IS W v [1] → IS W y [] → Calls Try.prog 9 #[v, y, .int .i64 1, .int .i64 16385] W fun e w' => ∃ u, e = .returned (.tuple #[u, .int .i64 2]) ∧ Hid (Below W.heap.size W w')) := fun W v y h k => by
    refine (Widths_any [1] [] 1 16385 v y W h k).mono ?_
    rintro e w' ⟨u, rfl, H⟩
    rw [show wiE [1] [] 1 16385 = 2 by kernel_rfl]
    exact ⟨u, rfl, H.out.2⟩
  have HW9 : Hid (∀ W v y, IS W v [64, 63] → IS W y [16384, 0] → Calls Try.prog 9 #[v, y, .int .i64 64, .int .i64 16384] W fun e w' => ∃ u, e = .returned (.tuple #[u, .int .i64 0]) ∧ Hid (OwI W.heap.size w' u (wsG 64 16384 (cel 64 [64, 63]) [16384, 0]) ∧ Below W.heap.size W w')) := fun W v y h k => wide_widths W v y h k
  have H6 : Hid (∀ W v y, IS W v [1, 1] → KS 2 fZ W y [⟨8192, 1⟩, ⟨8192, 16384⟩] → Calls Try.prog 10 #[v, y, .int .i64 2, .int .i64 0] W fun e w' => e = .returned (.tuple #[.agg #[.int .i64 16384, .int .i64 16384], .int .i64 0]) ∧ Hid (Below W.heap.size W w')) := fun W v y h k => by
    have := Need_any [1, 1] [⟨8192, 1⟩, ⟨8192, 16384⟩] 2 0 v y W h k
    rwa [show neE [1, 1] [⟨8192, 1⟩, ⟨8192, 16384⟩] 2 0 = 0 by kernel_rfl, show neZ [1, 1] [⟨8192, 1⟩, ⟨8192, 16384⟩] 2 0 = ⟨16384, 16384⟩ by kernel_rfl] at this
  have H7 : Hid (∀ W v y, IS W v [1, 1] → KS 2 fZ W y [⟨8192, 0⟩, ⟨8192, 0⟩] → Calls Try.prog 10 #[v, y, .int .i64 2, .int .i64 1] W fun e w' => e = .returned (.tuple #[.agg #[.int .i64 0, .int .i64 0], .int .i64 9]) ∧ Hid (Below W.heap.size W w')) := fun W v y h k => by
    have := Need_any [1, 1] [⟨8192, 0⟩, ⟨8192, 0⟩] 2 1 v y W h k
    rwa [show neE [1, 1] [⟨8192, 0⟩, ⟨8192, 0⟩] 2 1 = 9 by kernel_rfl, show neZ [1, 1] [⟨8192, 0⟩, ⟨8192, 0⟩] 2 1 = ⟨0, 0⟩ by kernel_rfl] at this
  have H8 : Hid (∀ W v, IS W v [-1] → Calls Try.prog 8 #[v, .int .i64 1] W fun e w' => ∃ u, e = .returned (.tuple #[u, .int .i64 2]) ∧ Hid (Below W.heap.size W w')) := fun W v h => by
    refine (Cells_any [-1] 1 v W h).mono ?_
    rintro e w' ⟨u, rfl, H⟩
    rw [show ceE [-1] 1 = 2 by kernel_rfl]
    exact ⟨u, rfl, H.out.2⟩
  have H9 : Hid (∀ W v, IS W v [1] → Calls Try.prog 8 #[v, .int .i64 (-1)] W fun e w' => ∃ u, e = .returned (.tuple #[u, .int .i64 2]) ∧ Hid (Below W.heap.size W w')) := fun W v h => by
    refine (Cells_any [1] (-1) v W h).mono ?_
    rintro e w' ⟨u, rfl, H⟩
    rw [show ceE [1] (-1) = 2 by kernel_rfl]
    exact ⟨u, rfl, H.out.2⟩
  have H10 : Hid (∀ W v y, IS W v [1] → IS W y [-1] → Calls Try.prog 9 #[v, y, .int .i64 1, .int .i64 0] W fun e w' => ∃ u, e = .returned (.tuple #[u, .int .i64 2]) ∧ Hid (Below W.heap.size W w')) := fun W v y h k => by
    refine (Widths_any [1] [-1] 1 0 v y W h k).mono ?_
    rintro e w' ⟨u, rfl, H⟩
    rw [show wiE [1] [-1] 1 0 = 2 by kernel_rfl]
    exact ⟨u, rfl, H.out.2⟩
  have H11 : Hid (∀ W v y, IS W v [1] → IS W y [1] → Calls Try.prog 9 #[v, y, .int .i64 1, .int .i64 (-1)] W fun e w' => ∃ u, e = .returned (.tuple #[u, .int .i64 2]) ∧ Hid (Below W.heap.size W w')) := fun W v y h k => by
    refine (Widths_any [1] [1] 1 (-1) v y W h k).mono ?_
    rintro e w' ⟨u, rfl, H⟩
    rw [show wiE [1] [1] 1 (-1) = 2 by kernel_rfl]
    exact ⟨u, rfl, H.out.2⟩
  have H12 : Hid (∀ W v y, IS W v [1] → IS W y [-1] → Calls Try.prog 11 #[v, y, .int .i64 1] W fun e w' => ∃ u, e = .returned (.tuple #[u, .int .i64 2]) ∧ Hid (Below W.heap.size W w')) := fun W v y h k => by
    refine (Heights_any [1] [-1] 1 v y W h k).mono ?_
    rintro e w' ⟨u, rfl, H⟩
    rw [show heE [1] [-1] 1 = 2 by kernel_rfl]
    exact ⟨u, rfl, H.out.2⟩
  have H13 : Hid (∀ W v y, IS W v [1] → KS 2 fZ W y [⟨0, -1⟩] → Calls Try.prog 10 #[v, y, .int .i64 1, .int .i64 0] W fun e w' => e = .returned (.tuple #[.agg #[.int .i64 0, .int .i64 0], .int .i64 2]) ∧ Hid (Below W.heap.size W w')) := fun W v y h k => by
    have := Need_any [1] [⟨0, -1⟩] 1 0 v y W h k
    rwa [show neE [1] [⟨0, -1⟩] 1 0 = 2 by kernel_rfl, show neZ [1] [⟨0, -1⟩] 1 0 = ⟨0, 0⟩ by kernel_rfl] at this
  have H14 : Hid (∀ W v y, IS W v [1] → KS 2 fZ W y [⟨0, 16385⟩] → Calls Try.prog 10 #[v, y, .int .i64 1, .int .i64 0] W fun e w' => e = .returned (.tuple #[.agg #[.int .i64 0, .int .i64 0], .int .i64 2]) ∧ Hid (Below W.heap.size W w')) := fun W v y h k => by
    have := Need_any [1] [⟨0, 16385⟩] 1 0 v y W h k
    rwa [show neE [1] [⟨0, 16385⟩] 1 0 = 2 by kernel_rfl, show neZ [1] [⟨0, 16385⟩] 1 0 = ⟨0, 0⟩ by kernel_rfl] at this
  have H15 : Hid (∀ W v y, IS W v [] → KS 2 fZ W y [⟨1, 1⟩] → Calls Try.prog 10 #[v, y, .int .i64 1, .int .i64 0] W fun e w' => e = .returned (.tuple #[.agg #[.int .i64 0, .int .i64 0], .int .i64 110]) ∧ Hid (Below W.heap.size W w')) := fun W v y h k => by
    have := Need_any [] [⟨1, 1⟩] 1 0 v y W h k
    rwa [show neE [] [⟨1, 1⟩] 1 0 = 110 by kernel_rfl, show neZ [] [⟨1, 1⟩] 1 0 = ⟨0, 0⟩ by kernel_rfl] at this
  have H16 : Hid (∀ W v y, IS W v [1, 1] → KS 2 fZ W y [⟨1, 1⟩] → Calls Try.prog 10 #[v, y, .int .i64 1, .int .i64 0] W fun e w' => e = .returned (.tuple #[.agg #[.int .i64 0, .int .i64 0], .int .i64 110]) ∧ Hid (Below W.heap.size W w')) := fun W v y h k => by
    have := Need_any [1, 1] [⟨1, 1⟩] 1 0 v y W h k
    rwa [show neE [1, 1] [⟨1, 1⟩] 1 0 = 110 by kernel_rfl, show neZ [1, 1] [⟨1, 1⟩] 1 0 = ⟨0, 0⟩ by kernel_rfl] at this
  have H17 : Hid (∀ W v y, IS W v [] → KS 2 fZ W y [⟨1, 1⟩] → Calls Try.prog 12 #[v, y, .int .i64 1, .int .i64 0, .agg #[.int .i64 0, .int .i64 0, .int .i64 0, .int .i64 0]] W fun e w' => ∃ u, e = .returned (.tuple #[u, .int .i64 110]) ∧ Hid (Below W.heap.size W w')) := fun W v y h k => by
    refine (Rects_any [] [⟨1, 1⟩] 1 0 ⟨0, 0, 0, 0⟩ v y W h k (i64_small (by decide)) (i64_small (by decide))).mono ?_
    rintro e w' ⟨u, rfl, H⟩
    rw [show rcE [] [⟨1, 1⟩] 1 0 ⟨0, 0, 0, 0⟩ = 110 by kernel_rfl]
    exact ⟨u, rfl, H.out.2⟩
  go_enter Try.func3, Try.ntmps3
  go_wp2_with fail
  refine (HAl.out _).mono ?_
  rintro e w1 ⟨rfl, hv⟩
  have hb1 : Below w.heap.size w w1 := hv
  replace HB : Hid (Below w.heap.size w w1) := (HB.out).trans (hb1.mono (HB.out).size)
  clear hv HAl
  go_wp2_with fail
  have B2 : Below w1.heap.size w1 (w1.alloc (.cells mk0 3)) := ((Below.refl _ w1).alloc (Nat.le_refl _) _)
  refine (HL1.out _ _ (is_many (Bk.newB rfl))).mono ?_
  rintro e w2 ⟨cv, rfl, HV⟩
  have hb2 : Below w1.heap.size w1 w2 := B2.trans (HV.out.2.mono B2.size)
  replace HB : Hid (Below w.heap.size w w2 ∧ Bk w2 w1.heap.size mk0 3 ∧ KS 2 fP w2 cv (cel 64 (List.replicate 1024 0))) := ⟨(HB.out).trans (hb2.mono (HB.out).size), (Bk.newB rfl : Bk _ _ mk0 3).below HV.out.2, HV.out.1.ks encP⟩
  clear HV HL1
  go_wp2_with fail
  refine (HL2.out _ _ (is_all (HB.out.2.1))).mono ?_
  rintro e w3 ⟨ul2, rfl, HV⟩
  have hb3 : Below w2.heap.size w2 w3 := HV.out
  replace HB : Hid (Below w.heap.size w w3 ∧ Bk w3 w1.heap.size mk0 3 ∧ KS 2 fP w3 cv (cel 64 (List.replicate 1024 0))) := ⟨(HB.out.1).trans (hb3.mono (HB.out.1).size), (HB.out.2.1).below hb3, (HB.out.2.2).below hb3⟩
  clear HV HL2
  go_wp2_with fail
  have B4 : Below w3.heap.size w3 (w3.alloc (.cells #[.int .i64 64] 3)) := ((Below.refl _ w3).alloc (Nat.le_refl _) _)
  refine (H1.out _ _ (is_bk (xs := [64]) (Bk.newB rfl))).mono ?_
  rintro e w4 ⟨uH1, rfl, HV⟩
  have hb4 : Below w3.heap.size w3 w4 := B4.trans (HV.out.mono B4.size)
  replace HB : Hid (Below w.heap.size w w4 ∧ Bk w4 w1.heap.size mk0 3 ∧ KS 2 fP w4 cv (cel 64 (List.replicate 1024 0))) := ⟨(HB.out.1).trans (hb4.mono (HB.out.1).size), (HB.out.2.1).below hb4, (HB.out.2.2).below hb4⟩
  clear HV H1
  go_wp2_with fail
  have B5 : Below w4.heap.size w4 (w4.alloc (.cells #[.int .i64 65] 3)) := ((Below.refl _ w4).alloc (Nat.le_refl _) _)
  refine (H2.out _ _ (is_bk (xs := [65]) (Bk.newB rfl))).mono ?_
  rintro e w5 ⟨uH2, rfl, HV⟩
  have hb5 : Below w4.heap.size w4 w5 := B5.trans (HV.out.mono B5.size)
  replace HB : Hid (Below w.heap.size w w5 ∧ Bk w5 w1.heap.size mk0 3 ∧ KS 2 fP w5 cv (cel 64 (List.replicate 1024 0))) := ⟨(HB.out.1).trans (hb5.mono (HB.out.1).size), (HB.out.2.1).below hb5, (HB.out.2.2).below hb5⟩
  clear HV H2
  go_wp2_with fail
  refine (H3.out _ _ (is_nil _)).mono ?_
  rintro e w6 ⟨uH3, rfl, HV⟩
  have hb6 : Below w5.heap.size w5 w6 := HV.out
  replace HB : Hid (Below w.heap.size w w6 ∧ Bk w6 w1.heap.size mk0 3 ∧ KS 2 fP w6 cv (cel 64 (List.replicate 1024 0))) := ⟨(HB.out.1).trans (hb6.mono (HB.out.1).size), (HB.out.2.1).below hb6, (HB.out.2.2).below hb6⟩
  clear HV H3
  go_wp2_with fail
  refine (HL3.out _ _ _ (is_nil _) (is_all (HB.out.2.1))).mono ?_
  rintro e w7 ⟨ul3, rfl, HV⟩
  have hb7 : Below w6.heap.size w6 w7 := HV.out
  replace HB : Hid (Below w.heap.size w w7 ∧ KS 2 fP w7 cv (cel 64 (List.replicate 1024 0))) := ⟨(HB.out.1).trans (hb7.mono (HB.out.1).size), (HB.out.2.2).below hb7⟩
  clear HV HL3
  go_wp2_with fail
  have B8 : Below w7.heap.size w7 (w7.alloc (.cells #[.int .i64 1] 3)) := ((Below.refl _ w7).alloc (Nat.le_refl _) _)
  refine (H4.out _ _ _ (is_bk (xs := [1]) (Bk.newB rfl)) (is_nil _)).mono ?_
  rintro e w8 ⟨uH4, rfl, HV⟩
  have hb8 : Below w7.heap.size w7 w8 := B8.trans (HV.out.mono B8.size)
  replace HB : Hid (Below w.heap.size w w8 ∧ KS 2 fP w8 cv (cel 64 (List.replicate 1024 0))) := ⟨(HB.out.1).trans (hb8.mono (HB.out.1).size), (HB.out.2).below hb8⟩
  clear HV H4
  go_wp2_with fail
  have B9 : Below w8.heap.size w8 (w8.alloc (.cells #[.int .i64 1] 3)) := ((Below.refl _ w8).alloc (Nat.le_refl _) _)
  refine (H5.out _ _ _ (is_bk (xs := [1]) (Bk.newB rfl)) (is_nil _)).mono ?_
  rintro e w9 ⟨uH5, rfl, HV⟩
  have hb9 : Below w8.heap.size w8 w9 := B9.trans (HV.out.mono B9.size)
  replace HB : Hid (Below w.heap.size w w9 ∧ KS 2 fP w9 cv (cel 64 (List.replicate 1024 0))) := ⟨(HB.out.1).trans (hb9.mono (HB.out.1).size), (HB.out.2).below hb9⟩
  clear HV H5
  go_wp2_with fail
  have B10 : Below w9.heap.size w9 ((w9.alloc (.cells #[.int .i64 64, .int .i64 63] 3)).alloc (.cells #[.int .i64 16384, .int .i64 0] 3)) := (((Below.refl _ w9).alloc (Nat.le_refl _) _).alloc (by simp) _)
  refine (HW9.out _ _ _ (is_bk (xs := [64, 63]) (Bk.alloc (Bk.newB rfl) _)) (is_bk (xs := [16384, 0]) (Bk.newB (by simp)))).mono ?_
  rintro e w10 ⟨wv, rfl, HV⟩
  have hb10 : Below w9.heap.size w9 w10 := B10.trans (HV.out.2.mono B10.size)
  replace HB : Hid (Below w.heap.size w w10 ∧ KS 2 fP w10 cv (cel 64 (List.replicate 1024 0)) ∧ IS w10 wv (wsG 64 16384 (cel 64 [64, 63]) [16384, 0])) := ⟨(HB.out.1).trans (hb10.mono (HB.out.1).size), (HB.out.2).below hb10, HV.out.1.is⟩
  clear HV HW9
  go_wp2_with fail
  have B11 : Below w10.heap.size w10 ((w10.alloc (.cells #[.int .i64 1, .int .i64 1] 3)).alloc (.cells #[.int .i64 8192, .int .i64 1, .int .i64 8192, .int .i64 16384] 31)) := (((Below.refl _ w10).alloc (Nat.le_refl _) _).alloc (by simp) _)
  refine (H6.out _ _ _ (is_bk (xs := [1, 1]) (Bk.alloc (Bk.newB rfl) _)) (ks_bk encZ (l := [⟨8192, 1⟩, ⟨8192, 16384⟩]) (Bk.newB (by simp)))).mono ?_
  rintro e w11 ⟨rfl, HV⟩
  have hb11 : Below w10.heap.size w10 w11 := B11.trans (HV.out.mono B11.size)
  replace HB : Hid (Below w.heap.size w w11 ∧ KS 2 fP w11 cv (cel 64 (List.replicate 1024 0)) ∧ IS w11 wv (wsG 64 16384 (cel 64 [64, 63]) [16384, 0])) := ⟨(HB.out.1).trans (hb11.mono (HB.out.1).size), (HB.out.2.1).below hb11, (HB.out.2.2).below hb11⟩
  clear HV H6
  go_wp2_with fail
  have B12 : Below w11.heap.size w11 (((w11.alloc (.cells #[.int .i64 16384, .int .i64 16384] 31)).alloc (.cells #[.int .i64 1, .int .i64 1] 3)).alloc (.cells #[.int .i64 8192, .int .i64 0, .int .i64 8192, .int .i64 0] 31)) := ((((Below.refl _ w11).alloc (Nat.le_refl _) _).alloc (by simp) _).alloc (by simp; omega) _)
  refine (H7.out _ _ _ (is_bk (xs := [1, 1]) (Bk.alloc (Bk.newB (by simp)) _)) (ks_bk encZ (l := [⟨8192, 0⟩, ⟨8192, 0⟩]) (Bk.newB (by simp)))).mono ?_
  rintro e w12 ⟨rfl, HV⟩
  have hb12 : Below w11.heap.size w11 w12 := B12.trans (HV.out.mono B12.size)
  replace HB : Hid (Below w.heap.size w w12 ∧ KS 2 fP w12 cv (cel 64 (List.replicate 1024 0)) ∧ IS w12 wv (wsG 64 16384 (cel 64 [64, 63]) [16384, 0]) ∧ Bk w12 w11.heap.size #[.int .i64 16384, .int .i64 16384] 31) := ⟨(HB.out.1).trans (hb12.mono (HB.out.1).size), (HB.out.2.1).below hb12, (HB.out.2.2).below hb12, (Bk.alloc (Bk.alloc (Bk.newB rfl) _) _ : Bk _ _ #[.int .i64 16384, .int .i64 16384] 31).below HV.out⟩
  clear HV H7
  go_wp2_with fail
  have B13 : Below w12.heap.size w12 (((w12.alloc (.cells #[.int .i64 0, .int .i64 0] 31)).alloc (.cells #[.int .i64 1, .int .i64 1] 31)).alloc (.cells #[.int .i64 (-1)] 3)) := ((((Below.refl _ w12).alloc (Nat.le_refl _) _).alloc (by simp) _).alloc (by simp; omega) _)
  refine (H8.out _ _ (is_bk (xs := [-1]) (Bk.newB (by simp)))).mono ?_
  rintro e w13 ⟨uH8, rfl, HV⟩
  have hb13 : Below w12.heap.size w12 w13 := B13.trans (HV.out.mono B13.size)
  replace HB : Hid (Below w.heap.size w w13 ∧ KS 2 fP w13 cv (cel 64 (List.replicate 1024 0)) ∧ IS w13 wv (wsG 64 16384 (cel 64 [64, 63]) [16384, 0]) ∧ Bk w13 w11.heap.size #[.int .i64 16384, .int .i64 16384] 31 ∧ Bk w13 (w12.heap.size + 1) #[.int .i64 1, .int .i64 1] 31) := ⟨(HB.out.1).trans (hb13.mono (HB.out.1).size), (HB.out.2.1).below hb13, (HB.out.2.2.1).below hb13, (HB.out.2.2.2).below hb13, (Bk.alloc (Bk.newB (by simp)) _ : Bk _ _ #[.int .i64 1, .int .i64 1] 31).below HV.out⟩
  clear HV H8
  go_wp2_with fail
  have B14 : Below w13.heap.size w13 (w13.alloc (.cells #[.int .i64 1] 3)) := ((Below.refl _ w13).alloc (Nat.le_refl _) _)
  refine (H9.out _ _ (is_bk (xs := [1]) (Bk.newB rfl))).mono ?_
  rintro e w14 ⟨uH9, rfl, HV⟩
  have hb14 : Below w13.heap.size w13 w14 := B14.trans (HV.out.mono B14.size)
  replace HB : Hid (Below w.heap.size w w14 ∧ KS 2 fP w14 cv (cel 64 (List.replicate 1024 0)) ∧ IS w14 wv (wsG 64 16384 (cel 64 [64, 63]) [16384, 0]) ∧ Bk w14 w11.heap.size #[.int .i64 16384, .int .i64 16384] 31 ∧ Bk w14 (w12.heap.size + 1) #[.int .i64 1, .int .i64 1] 31) := ⟨(HB.out.1).trans (hb14.mono (HB.out.1).size), (HB.out.2.1).below hb14, (HB.out.2.2.1).below hb14, (HB.out.2.2.2.1).below hb14, (HB.out.2.2.2.2).below hb14⟩
  clear HV H9
  go_wp2_with fail
  have B15 : Below w14.heap.size w14 ((w14.alloc (.cells #[.int .i64 1] 3)).alloc (.cells #[.int .i64 (-1)] 3)) := (((Below.refl _ w14).alloc (Nat.le_refl _) _).alloc (by simp) _)
  refine (H10.out _ _ _ (is_bk (xs := [1]) (Bk.alloc (Bk.newB rfl) _)) (is_bk (xs := [-1]) (Bk.newB (by simp)))).mono ?_
  rintro e w15 ⟨uH10, rfl, HV⟩
  have hb15 : Below w14.heap.size w14 w15 := B15.trans (HV.out.mono B15.size)
  replace HB : Hid (Below w.heap.size w w15 ∧ KS 2 fP w15 cv (cel 64 (List.replicate 1024 0)) ∧ IS w15 wv (wsG 64 16384 (cel 64 [64, 63]) [16384, 0]) ∧ Bk w15 w11.heap.size #[.int .i64 16384, .int .i64 16384] 31 ∧ Bk w15 (w12.heap.size + 1) #[.int .i64 1, .int .i64 1] 31) := ⟨(HB.out.1).trans (hb15.mono (HB.out.1).size), (HB.out.2.1).below hb15, (HB.out.2.2.1).below hb15, (HB.out.2.2.2.1).below hb15, (HB.out.2.2.2.2).below hb15⟩
  clear HV H10
  go_wp2_with fail
  have B16 : Below w15.heap.size w15 ((w15.alloc (.cells #[.int .i64 1] 3)).alloc (.cells #[.int .i64 1] 3)) := (((Below.refl _ w15).alloc (Nat.le_refl _) _).alloc (by simp) _)
  refine (H11.out _ _ _ (is_bk (xs := [1]) (Bk.alloc (Bk.newB rfl) _)) (is_bk (xs := [1]) (Bk.newB (by simp)))).mono ?_
  rintro e w16 ⟨uH11, rfl, HV⟩
  have hb16 : Below w15.heap.size w15 w16 := B16.trans (HV.out.mono B16.size)
  replace HB : Hid (Below w.heap.size w w16 ∧ KS 2 fP w16 cv (cel 64 (List.replicate 1024 0)) ∧ IS w16 wv (wsG 64 16384 (cel 64 [64, 63]) [16384, 0]) ∧ Bk w16 w11.heap.size #[.int .i64 16384, .int .i64 16384] 31 ∧ Bk w16 (w12.heap.size + 1) #[.int .i64 1, .int .i64 1] 31) := ⟨(HB.out.1).trans (hb16.mono (HB.out.1).size), (HB.out.2.1).below hb16, (HB.out.2.2.1).below hb16, (HB.out.2.2.2.1).below hb16, (HB.out.2.2.2.2).below hb16⟩
  clear HV H11
  go_wp2_with fail
  have B17 : Below w16.heap.size w16 ((w16.alloc (.cells #[.int .i64 1] 3)).alloc (.cells #[.int .i64 (-1)] 3)) := (((Below.refl _ w16).alloc (Nat.le_refl _) _).alloc (by simp) _)
  refine (H12.out _ _ _ (is_bk (xs := [1]) (Bk.alloc (Bk.newB rfl) _)) (is_bk (xs := [-1]) (Bk.newB (by simp)))).mono ?_
  rintro e w17 ⟨uH12, rfl, HV⟩
  have hb17 : Below w16.heap.size w16 w17 := B17.trans (HV.out.mono B17.size)
  replace HB : Hid (Below w.heap.size w w17 ∧ KS 2 fP w17 cv (cel 64 (List.replicate 1024 0)) ∧ IS w17 wv (wsG 64 16384 (cel 64 [64, 63]) [16384, 0]) ∧ Bk w17 w11.heap.size #[.int .i64 16384, .int .i64 16384] 31 ∧ Bk w17 (w12.heap.size + 1) #[.int .i64 1, .int .i64 1] 31) := ⟨(HB.out.1).trans (hb17.mono (HB.out.1).size), (HB.out.2.1).below hb17, (HB.out.2.2.1).below hb17, (HB.out.2.2.2.1).below hb17, (HB.out.2.2.2.2).below hb17⟩
  clear HV H12
  go_wp2_with fail
  have B18 : Below w17.heap.size w17 ((w17.alloc (.cells #[.int .i64 1] 3)).alloc (.cells #[.int .i64 0, .int .i64 (-1)] 31)) := (((Below.refl _ w17).alloc (Nat.le_refl _) _).alloc (by simp) _)
  refine (H13.out _ _ _ (is_bk (xs := [1]) (Bk.alloc (Bk.newB rfl) _)) (ks_bk encZ (l := [⟨0, -1⟩]) (Bk.newB (by simp)))).mono ?_
  rintro e w18 ⟨rfl, HV⟩
  have hb18 : Below w17.heap.size w17 w18 := B18.trans (HV.out.mono B18.size)
  replace HB : Hid (Below w.heap.size w w18 ∧ KS 2 fP w18 cv (cel 64 (List.replicate 1024 0)) ∧ IS w18 wv (wsG 64 16384 (cel 64 [64, 63]) [16384, 0]) ∧ Bk w18 w11.heap.size #[.int .i64 16384, .int .i64 16384] 31 ∧ Bk w18 (w12.heap.size + 1) #[.int .i64 1, .int .i64 1] 31) := ⟨(HB.out.1).trans (hb18.mono (HB.out.1).size), (HB.out.2.1).below hb18, (HB.out.2.2.1).below hb18, (HB.out.2.2.2.1).below hb18, (HB.out.2.2.2.2).below hb18⟩
  clear HV H13
  go_wp2_with fail
  have B19 : Below w18.heap.size w18 (((w18.alloc (.cells #[.int .i64 0, .int .i64 0] 31)).alloc (.cells #[.int .i64 1] 3)).alloc (.cells #[.int .i64 0, .int .i64 16385] 31)) := ((((Below.refl _ w18).alloc (Nat.le_refl _) _).alloc (by simp) _).alloc (by simp; omega) _)
  refine (H14.out _ _ _ (is_bk (xs := [1]) (Bk.alloc (Bk.newB (by simp)) _)) (ks_bk encZ (l := [⟨0, 16385⟩]) (Bk.newB (by simp)))).mono ?_
  rintro e w19 ⟨rfl, HV⟩
  have hb19 : Below w18.heap.size w18 w19 := B19.trans (HV.out.mono B19.size)
  replace HB : Hid (Below w.heap.size w w19 ∧ KS 2 fP w19 cv (cel 64 (List.replicate 1024 0)) ∧ IS w19 wv (wsG 64 16384 (cel 64 [64, 63]) [16384, 0]) ∧ Bk w19 w11.heap.size #[.int .i64 16384, .int .i64 16384] 31 ∧ Bk w19 (w12.heap.size + 1) #[.int .i64 1, .int .i64 1] 31) := ⟨(HB.out.1).trans (hb19.mono (HB.out.1).size), (HB.out.2.1).below hb19, (HB.out.2.2.1).below hb19, (HB.out.2.2.2.1).below hb19, (HB.out.2.2.2.2).below hb19⟩
  clear HV H14
  go_wp2_with fail
  have B20 : Below w19.heap.size w19 (w19.alloc (.cells #[.int .i64 0, .int .i64 0] 31)) := ((Below.refl _ w19).alloc (Nat.le_refl _) _)
  refine (H15.out _ _ _ (is_nil _) (ks_bk encZ (l := [⟨1, 1⟩]) (Bk.below (HB.out.2.2.2.2) (((Below.refl _ w19).alloc (Nat.le_refl _) _))))).mono ?_
  rintro e w20 ⟨rfl, HV⟩
  have hb20 : Below w19.heap.size w19 w20 := B20.trans (HV.out.mono B20.size)
  replace HB : Hid (Below w.heap.size w w20 ∧ KS 2 fP w20 cv (cel 64 (List.replicate 1024 0)) ∧ IS w20 wv (wsG 64 16384 (cel 64 [64, 63]) [16384, 0]) ∧ Bk w20 w11.heap.size #[.int .i64 16384, .int .i64 16384] 31 ∧ Bk w20 (w12.heap.size + 1) #[.int .i64 1, .int .i64 1] 31) := ⟨(HB.out.1).trans (hb20.mono (HB.out.1).size), (HB.out.2.1).below hb20, (HB.out.2.2.1).below hb20, (HB.out.2.2.2.1).below hb20, (HB.out.2.2.2.2).below hb20⟩
  clear HV H15
  go_wp2_with fail
  have B21 : Below w20.heap.size w20 ((w20.alloc (.cells #[.int .i64 0, .int .i64 0] 31)).alloc (.cells #[.int .i64 1, .int .i64 1] 3)) := (((Below.refl _ w20).alloc (Nat.le_refl _) _).alloc (by simp) _)
  refine (H16.out _ _ _ (is_bk (xs := [1, 1]) (Bk.newB (by simp))) (ks_bk encZ (l := [⟨1, 1⟩]) (Bk.below (HB.out.2.2.2.2) ((((Below.refl _ w20).alloc (Nat.le_refl _) _).alloc (by simp) _))))).mono ?_
  rintro e w21 ⟨rfl, HV⟩
  have hb21 : Below w20.heap.size w20 w21 := B21.trans (HV.out.mono B21.size)
  replace HB : Hid (Below w.heap.size w w21 ∧ KS 2 fP w21 cv (cel 64 (List.replicate 1024 0)) ∧ IS w21 wv (wsG 64 16384 (cel 64 [64, 63]) [16384, 0]) ∧ Bk w21 w11.heap.size #[.int .i64 16384, .int .i64 16384] 31 ∧ Bk w21 (w12.heap.size + 1) #[.int .i64 1, .int .i64 1] 31) := ⟨(HB.out.1).trans (hb21.mono (HB.out.1).size), (HB.out.2.1).below hb21, (HB.out.2.2.1).below hb21, (HB.out.2.2.2.1).below hb21, (HB.out.2.2.2.2).below hb21⟩
  clear HV H16
  go_wp2_with fail
  have B22 : Below w21.heap.size w21 (w21.alloc (.cells #[.int .i64 0, .int .i64 0] 31)) := ((Below.refl _ w21).alloc (Nat.le_refl _) _)
  refine (H17.out _ _ _ (is_nil _) (ks_bk encZ (l := [⟨1, 1⟩]) (Bk.below (HB.out.2.2.2.2) (((Below.refl _ w21).alloc (Nat.le_refl _) _))))).mono ?_
  rintro e w22 ⟨uH17, rfl, HV⟩
  have hb22 : Below w21.heap.size w21 w22 := B22.trans (HV.out.mono B22.size)
  replace HB : Hid (Below w.heap.size w w22 ∧ KS 2 fP w22 cv (cel 64 (List.replicate 1024 0)) ∧ IS w22 wv (wsG 64 16384 (cel 64 [64, 63]) [16384, 0]) ∧ Bk w22 w11.heap.size #[.int .i64 16384, .int .i64 16384] 31 ∧ Bk w22 (w12.heap.size + 1) #[.int .i64 1, .int .i64 1] 31) := ⟨(HB.out.1).trans (hb22.mono (HB.out.1).size), (HB.out.2.1).below hb22, (HB.out.2.2.1).below hb22, (HB.out.2.2.2.1).below hb22, (HB.out.2.2.2.2).below hb22⟩
  clear HV H17
  have HF : Hid (Below w.heap.size w w22) := HB.out.1
  obtain ⟨co, cc, ec, _, cg⟩ := HB.out.2.1
  obtain ⟨cb, cf, rfl, cl, cat⟩ := cg (by rw [many_len]; omega)
  rw [many_len] at ec
  subst ec
  obtain ⟨c0, c1⟩ := many_at cat
  obtain ⟨wo, wc, ew, _, wg⟩ := HB.out.2.2.1
  obtain ⟨wb, wf, rfl, wl, wat⟩ := wg (by rw [wide_len]; omega)
  rw [wide_len] at ew
  subst ew
  have v0 := wide_at wat
  have n0 := (HB.out.2.2.2.1).at2.1
  have n1 := (HB.out.2.2.2.1).at2.2
  clear HB cg cat wg wat
  go_wp2
  go_ret
  exact ⟨rfl, HF.out⟩

end Go.Proofs.Ythnhcphkpffkfaa
