/-
  FlexNames: the limits, the errors, the chapter's examples.
-/
import Derived.Test.YtchjmmchflbfcaaXJ
namespace Go.Proofs.Ytchjmmchflbfcaa
open Go.RowKit

theorem info_track : (Try.prog.info? 27).map (fun i => (i.zero, i.size, i.bytes)) = some (some (.agg #[.int .i64 0, .int .i64 0, .int .i64 0]), 3, 24) := by kernel_rfl
def zT : Tk := ⟨0, 0, 0⟩
def mkT : Array Value := (flatT (List.replicate 1025 zT)).toArray
theorem flatT_rep (n : Nat) : flatT (List.replicate n zT) = List.replicate (n * 3) (.int .i64 0) := by
  induction n with
  | zero => rfl
  | succ n ih =>
    rw [List.replicate_succ, show (n + 1) * 3 = n * 3 + 1 + 1 + 1 by omega, List.replicate_succ, List.replicate_succ, List.replicate_succ]
    show celT zT ++ flatT (List.replicate n zT) = _
    rw [ih]
    rfl
theorem make_trk (n : Nat) (hn : n < 1000000) (w : World) : (Instr.makeSlice 29 (.int .i64 (n : Nat)) (.int .i64 (n : Nat))).run Try.prog w = .ok (.slice (some ⟨w.heap.size, 0, none⟩) n n) (w.alloc (.cells (flatT (List.replicate n zT)).toArray 27)) := by
  obtain ⟨i0, hi, hz0, hz1, hz2⟩ := info_parts info_track
  have h := run_make (P := Try.prog) w 29 27 i0 (.agg #[.int .i64 0, .int .i64 0, .int .i64 0]) Try.underlying29 hi hz0 .i64 .i64 (n : Int) (n : Int) (by omega) (Int.le_refl _) (by rw [hz2]; omega) (by omega)
  simp only [Int.toNat_natCast, hz1] at h
  rw [h, flatT_rep]
  congr 3
  refine Array.ext (by simp [size_madeCells]) fun i h1 h2 => ?_
  have h3 : i % 3 < 3 := Nat.mod_lt _ (by omega)
  have hz : ∀ j, j < 3 → (#[Value.int .i64 0, .int .i64 0, .int .i64 0] : Array Value)[j]! = .int .i64 0 := by
    intro j hj
    match j, hj with
    | 0, _ => rfl
    | 1, _ => rfl
    | 2, _ => rfl
  simp [madeCells, Value.cells]
  simpa using hz (i % 3) h3
theorem make_tracks (w : World) : (Instr.makeSlice 29 (.int .i64 1025) (.int .i64 1025)).run Try.prog w = .ok (.slice (some ⟨w.heap.size, 0, none⟩) 1025 1025) (w.alloc (.cells mkT 27)) := make_trk 1025 (by omega) w
theorem need_many (W : World) (b : Nat) (h : Bk W b mkT 27) : Calls Try.prog 10 #[.slice (some ⟨b, 0, none⟩) 1025 1025] W fun e w' => e = .returned (.tuple #[.int .i64 0, .int .i64 4]) ∧ Below W.heap.size W w' := by
  have hts := ts_lit (T := List.replicate 1025 zT) h
  have k := Need_any (List.replicate 1025 zT) _ W hts
  have hc : chT (List.replicate 1025 zT) = 4 := by unfold chT; rw [if_pos (by rw [List.length_replicate]; omega)]
  have hn : neN (List.replicate 1025 zT) = 0 := by unfold neN; rw [hc, if_neg (by omega)]
  rw [hc, hn, List.length_replicate] at k
  exact k

set_option maxRecDepth 10000 in
set_option maxHeartbeats 8000000 in
theorem names_walk (w : World) : Calls Try.prog 3 #[] w fun e w' => e = .returned (.bool true) ∧ Below w.heap.size w w' := by
  have H1 : Hid (∀ W b, Bk W b #[.int .i64 2, .int .i64 0, .int .i64 1, .int .i64 3, .int .i64 0, .int .i64 1] 27 → Calls Try.prog 8 #[.slice (some ⟨b, 0, none⟩) 2 2, .int .i64 11] W fun e w' => AnsI W [5, 6] 0 e w') := fun W b h => share_lit [⟨2, 0, 1⟩, ⟨3, 0, 1⟩] 11 [5, 6] 0 (by decide +kernel) (by decide +kernel) W b h
  have H2 : Hid (∀ W b, Bk W b #[.int .i64 2, .int .i64 0, .int .i64 0, .int .i64 3, .int .i64 0, .int .i64 1] 27 → Calls Try.prog 8 #[.slice (some ⟨b, 0, none⟩) 2 2, .int .i64 9] W fun e w' => AnsI W [2, 7] 0 e w') := fun W b h => share_lit [⟨2, 0, 0⟩, ⟨3, 0, 1⟩] 9 [2, 7] 0 (by decide +kernel) (by decide +kernel) W b h
  have H3 : Hid (∀ W b, Bk W b #[.int .i64 0, .int .i64 2, .int .i64 1, .int .i64 0, .int .i64 0, .int .i64 1, .int .i64 0, .int .i64 0, .int .i64 2] 27 → Calls Try.prog 8 #[.slice (some ⟨b, 0, none⟩) 3 3, .int .i64 11] W fun e w' => AnsI W [2, 3, 6] 0 e w') := fun W b h => share_lit [⟨0, 2, 1⟩, ⟨0, 0, 1⟩, ⟨0, 0, 2⟩] 11 [2, 3, 6] 0 (by decide +kernel) (by decide +kernel) W b h
  have H4 : Hid (∀ W b, Bk W b #[.int .i64 0, .int .i64 2, .int .i64 1, .int .i64 0, .int .i64 3, .int .i64 5] 27 → Calls Try.prog 8 #[.slice (some ⟨b, 0, none⟩) 2 2, .int .i64 20] W fun e w' => AnsI W [2, 3] 0 e w') := fun W b h => share_lit [⟨0, 2, 1⟩, ⟨0, 3, 5⟩] 20 [2, 3] 0 (by decide +kernel) (by decide +kernel) W b h
  have H5 : Hid (∀ W b, Bk W b #[.int .i64 4, .int .i64 0, .int .i64 1, .int .i64 5, .int .i64 0, .int .i64 9] 27 → Calls Try.prog 8 #[.slice (some ⟨b, 0, none⟩) 2 2, .int .i64 6] W fun e w' => AnsI W [4, 5] 0 e w') := fun W b h => share_lit [⟨4, 0, 1⟩, ⟨5, 0, 9⟩] 6 [4, 5] 0 (by decide +kernel) (by decide +kernel) W b h
  have H6 : Hid (∀ W b, Bk W b #[.int .i64 0, .int .i64 0, .int .i64 1, .int .i64 0, .int .i64 0, .int .i64 1, .int .i64 0, .int .i64 0, .int .i64 1] 27 → Calls Try.prog 8 #[.slice (some ⟨b, 0, none⟩) 3 3, .int .i64 5] W fun e w' => AnsI W [2, 2, 1] 0 e w') := fun W b h => share_lit [⟨0, 0, 1⟩, ⟨0, 0, 1⟩, ⟨0, 0, 1⟩] 5 [2, 2, 1] 0 (by decide +kernel) (by decide +kernel) W b h
  have H7 : Hid (∀ W b, Bk W b #[.int .i64 5, .int .i64 4, .int .i64 0] 27 → Calls Try.prog 8 #[.slice (some ⟨b, 0, none⟩) 1 1, .int .i64 9] W fun e w' => AnsI W [] 100 e w') := fun W b h => share_lit [⟨5, 4, 0⟩] 9 [] 100 (by decide +kernel) (by decide +kernel) W b h
  have H8 : Hid (∀ W, Calls Try.prog 8 #[.slice none 0 0, .int .i64 (-1)] W fun e w' => AnsI W [] 2 e w') := fun W => by
    have h := Share_any [] (-1) (.slice none 0 0) W ⟨none, 0, rfl, Nat.le_refl _, fun h => absurd h (by simp)⟩
    rw [show shL [] (-1) = [] by decide +kernel, show shE [] (-1) = 2 by decide +kernel] at h
    exact h
  have H9 : Hid (∀ W b, Bk W b #[.int .i64 2, .int .i64 0, .int .i64 1, .int .i64 3, .int .i64 9, .int .i64 0] 27 → Calls Try.prog 10 #[.slice (some ⟨b, 0, none⟩) 2 2] W fun e w' => e = .returned (.tuple #[.int .i64 (5), .int .i64 0]) ∧ Below W.heap.size W w') := fun W b h => by
    have k := Need_any [⟨2, 0, 1⟩, ⟨3, 9, 0⟩] _ W (ts_lit h)
    rw [show neN [⟨2, 0, 1⟩, ⟨3, 9, 0⟩] = 5 by decide +kernel, show chT [⟨2, 0, 1⟩, ⟨3, 9, 0⟩] = 0 by decide +kernel] at k
    exact k
  have H10 : Hid (∀ W b, Bk W b #[.int .i64 2, .int .i64 0, .int .i64 1, .int .i64 3, .int .i64 9, .int .i64 0] 27 → Calls Try.prog 11 #[.slice (some ⟨b, 0, none⟩) 2 2] W fun e w' => e = .returned (.tuple #[.int .i64 (-1), .int .i64 0]) ∧ Below W.heap.size W w') := fun W b h => by
    have k := Most_any [⟨2, 0, 1⟩, ⟨3, 9, 0⟩] _ W (ts_lit h)
    rw [show moN [⟨2, 0, 1⟩, ⟨3, 9, 0⟩] = -1 by decide +kernel, show chT [⟨2, 0, 1⟩, ⟨3, 9, 0⟩] = 0 by decide +kernel] at k
    exact k
  have H11 : Hid (∀ W b, Bk W b #[.int .i64 2, .int .i64 5, .int .i64 1, .int .i64 3, .int .i64 9, .int .i64 0] 27 → Calls Try.prog 11 #[.slice (some ⟨b, 0, none⟩) 2 2] W fun e w' => e = .returned (.tuple #[.int .i64 (8), .int .i64 0]) ∧ Below W.heap.size W w') := fun W b h => by
    have k := Most_any [⟨2, 5, 1⟩, ⟨3, 9, 0⟩] _ W (ts_lit h)
    rw [show moN [⟨2, 5, 1⟩, ⟨3, 9, 0⟩] = 8 by decide +kernel, show chT [⟨2, 5, 1⟩, ⟨3, 9, 0⟩] = 0 by decide +kernel] at k
    exact k
  have H12 : Hid (∀ W b, Bk W b #[.int .i64 3, .int .i64 0, .int .i64 2] 3 → Calls Try.prog 12 #[.slice (some ⟨b, 0, none⟩) 3 3, .int .i64 1] W fun e w' => AnsI W [0, 4, 5] 0 e w') := fun W b h => by
    have k := Starts_any [3, 0, 2] 1 _ W (Nb.is (xs := [3, 0, 2]) h)
    rw [show stL [3, 0, 2] 1 = [0, 4, 5] by decide +kernel, show stE [3, 0, 2] 1 = 0 by decide +kernel] at k
    exact k
  have H13 : Hid (∀ W, Calls Try.prog 12 #[.slice none 0 0, .int .i64 16385] W fun e w' => AnsI W [] 2 e w') := fun W => by
    have k := Starts_any [] 16385 _ W (is_nil W)
    rw [show stL [] 16385 = [] by decide +kernel, show stE [] 16385 = 2 by decide +kernel] at k
    exact k
  have H14 : Hid (∀ W b, Bk W b #[.int .i64 1, .int .i64 0, .int .i64 1, .int .i64 1, .int .i64 0, .int .i64 1] 27 → Calls Try.prog 13 #[.slice (some ⟨b, 0, none⟩) 2 2, .int .i64 30, .int .i64 10] W fun e w' => AnsR W [1, 1] [0, 31] 0 e w') := fun W b h => row_lit [⟨1, 0, 1⟩, ⟨1, 0, 1⟩] 30 10 [1, 1] [0, 31] 0 (by decide +kernel) (by decide +kernel) (by decide +kernel) W b h
  have HMk : Hid (∀ W, (Instr.makeSlice 29 (.int .i64 1025) (.int .i64 1025)).run Try.prog W = .ok (.slice (some ⟨W.heap.size, 0, none⟩) 1025 1025) (W.alloc (.cells mkT 27))) := fun W => make_tracks W
  have HNm : Hid (∀ W b, Bk W b mkT 27 → Calls Try.prog 10 #[.slice (some ⟨b, 0, none⟩) 1025 1025] W fun e w' => e = .returned (.tuple #[.int .i64 0, .int .i64 4]) ∧ Below W.heap.size W w') := fun W b h => need_many W b h
  have HT : Hid (∀ a b c W, Calls Try.prog 9 #[.int .i64 a, .int .i64 b, .int .i64 c] W fun e w' => e = .returned (.agg #[.int .i64 a, .int .i64 b, .int .i64 c]) ∧ Below W.heap.size W w') := t_any
  have HI2 : Hid (∀ (x y : Int) v b W, IS W v [x, y] → Bk W b #[.int .i64 x, .int .i64 y] 3 → Calls Try.prog 14 #[v, .int .i64 0, .slice (some ⟨b, 0, none⟩) 2 2] W fun e w' => e = .returned (.bool true) ∧ Below W.heap.size W w') := fun x y v b W hv hb => is_lit [x, y] v b W hv hb (by simp)
  have HI3 : Hid (∀ (x y z : Int) v b W, IS W v [x, y, z] → Bk W b #[.int .i64 x, .int .i64 y, .int .i64 z] 3 → Calls Try.prog 14 #[v, .int .i64 0, .slice (some ⟨b, 0, none⟩) 3 3] W fun e w' => e = .returned (.bool true) ∧ Below W.heap.size W w') := fun x y z v b W hv hb => is_lit [x, y, z] v b W hv hb (by simp)
  have HAl : Hid (∀ W, Calls Try.prog 15 #[] W fun e w' => e = .returned (.bool true) ∧ Below W.heap.size W w') := alive_any
  have HB : Hid (Below w.heap.size w w) := Below.refl _ _
  go_enter Try.func3, Try.ntmps3
  go_wp2_with fail
  refine (HT.out _ _ _ _).mono ?_
  rintro e w1 ⟨rfl, hb⟩
  replace HB : Hid (Below w.heap.size w w1) := by
    have h2 := hb
    exact (HB.out).trans (h2.mono (HB.out).size)
  clear hb
  go_wp2_with fail
  refine (HT.out _ _ _ _).mono ?_
  rintro e w2 ⟨rfl, hb⟩
  replace HB : Hid (Below w.heap.size w w2) := by
    have h2 := hb
    exact (HB.out).trans (h2.mono (HB.out).size)
  clear hb
  go_wp2_with fail
  refine (H1.out _ _ (Bk.new _ _ _)).mono ?_
  rintro e w3 ⟨a1, rfl, HV⟩
  replace HB : Hid (Below w.heap.size w w3 ∧ IS w3 a1 [5, 6]) := by
    have h2 := ((Below.refl _ w2).alloc (Nat.le_refl _) (.cells #[.int .i64 2, .int .i64 0, .int .i64 1, .int .i64 3, .int .i64 0, .int .i64 1] 27)).trans (HV.out.2.mono (by simp))
    exact ⟨(HB.out).trans (h2.mono (HB.out).size), HV.out.1.is⟩
  clear HV
  go_wp2_with fail
  refine (HT.out _ _ _ _).mono ?_
  rintro e w4 ⟨rfl, hb⟩
  replace HB : Hid (Below w.heap.size w w4 ∧ IS w4 a1 [5, 6]) := by
    have h2 := hb
    exact ⟨(HB.out.1).trans (h2.mono (HB.out.1).size), (HB.out.2).below h2⟩
  clear hb
  go_wp2_with fail
  refine (HT.out _ _ _ _).mono ?_
  rintro e w5 ⟨rfl, hb⟩
  replace HB : Hid (Below w.heap.size w w5 ∧ IS w5 a1 [5, 6]) := by
    have h2 := hb
    exact ⟨(HB.out.1).trans (h2.mono (HB.out.1).size), (HB.out.2).below h2⟩
  clear hb
  go_wp2_with fail
  refine (H2.out _ _ (Bk.new _ _ _)).mono ?_
  rintro e w6 ⟨a2, rfl, HV⟩
  replace HB : Hid (Below w.heap.size w w6 ∧ IS w6 a1 [5, 6] ∧ IS w6 a2 [2, 7]) := by
    have h2 := ((Below.refl _ w5).alloc (Nat.le_refl _) (.cells #[.int .i64 2, .int .i64 0, .int .i64 0, .int .i64 3, .int .i64 0, .int .i64 1] 27)).trans (HV.out.2.mono (by simp))
    exact ⟨(HB.out.1).trans (h2.mono (HB.out.1).size), (HB.out.2).below h2, HV.out.1.is⟩
  clear HV
  go_wp2_with fail
  refine (HT.out _ _ _ _).mono ?_
  rintro e w7 ⟨rfl, hb⟩
  replace HB : Hid (Below w.heap.size w w7 ∧ IS w7 a1 [5, 6] ∧ IS w7 a2 [2, 7]) := by
    have h2 := hb
    exact ⟨(HB.out.1).trans (h2.mono (HB.out.1).size), (HB.out.2.1).below h2, (HB.out.2.2).below h2⟩
  clear hb
  go_wp2_with fail
  refine (HT.out _ _ _ _).mono ?_
  rintro e w8 ⟨rfl, hb⟩
  replace HB : Hid (Below w.heap.size w w8 ∧ IS w8 a1 [5, 6] ∧ IS w8 a2 [2, 7]) := by
    have h2 := hb
    exact ⟨(HB.out.1).trans (h2.mono (HB.out.1).size), (HB.out.2.1).below h2, (HB.out.2.2).below h2⟩
  clear hb
  go_wp2_with fail
  refine (HT.out _ _ _ _).mono ?_
  rintro e w9 ⟨rfl, hb⟩
  replace HB : Hid (Below w.heap.size w w9 ∧ IS w9 a1 [5, 6] ∧ IS w9 a2 [2, 7]) := by
    have h2 := hb
    exact ⟨(HB.out.1).trans (h2.mono (HB.out.1).size), (HB.out.2.1).below h2, (HB.out.2.2).below h2⟩
  clear hb
  go_wp2_with fail
  refine (H3.out _ _ (Bk.new _ _ _)).mono ?_
  rintro e w10 ⟨a3, rfl, HV⟩
  replace HB : Hid (Below w.heap.size w w10 ∧ IS w10 a1 [5, 6] ∧ IS w10 a2 [2, 7] ∧ IS w10 a3 [2, 3, 6]) := by
    have h2 := ((Below.refl _ w9).alloc (Nat.le_refl _) (.cells #[.int .i64 0, .int .i64 2, .int .i64 1, .int .i64 0, .int .i64 0, .int .i64 1, .int .i64 0, .int .i64 0, .int .i64 2] 27)).trans (HV.out.2.mono (by simp))
    exact ⟨(HB.out.1).trans (h2.mono (HB.out.1).size), (HB.out.2.1).below h2, (HB.out.2.2).below h2, HV.out.1.is⟩
  clear HV
  go_wp2_with fail
  refine (HT.out _ _ _ _).mono ?_
  rintro e w11 ⟨rfl, hb⟩
  replace HB : Hid (Below w.heap.size w w11 ∧ IS w11 a1 [5, 6] ∧ IS w11 a2 [2, 7] ∧ IS w11 a3 [2, 3, 6]) := by
    have h2 := hb
    exact ⟨(HB.out.1).trans (h2.mono (HB.out.1).size), (HB.out.2.1).below h2, (HB.out.2.2.1).below h2, (HB.out.2.2.2).below h2⟩
  clear hb
  go_wp2_with fail
  refine (HT.out _ _ _ _).mono ?_
  rintro e w12 ⟨rfl, hb⟩
  replace HB : Hid (Below w.heap.size w w12 ∧ IS w12 a1 [5, 6] ∧ IS w12 a2 [2, 7] ∧ IS w12 a3 [2, 3, 6]) := by
    have h2 := hb
    exact ⟨(HB.out.1).trans (h2.mono (HB.out.1).size), (HB.out.2.1).below h2, (HB.out.2.2.1).below h2, (HB.out.2.2.2).below h2⟩
  clear hb
  go_wp2_with fail
  refine (H4.out _ _ (Bk.new _ _ _)).mono ?_
  rintro e w13 ⟨a4, rfl, HV⟩
  replace HB : Hid (Below w.heap.size w w13 ∧ IS w13 a1 [5, 6] ∧ IS w13 a2 [2, 7] ∧ IS w13 a3 [2, 3, 6] ∧ IS w13 a4 [2, 3]) := by
    have h2 := ((Below.refl _ w12).alloc (Nat.le_refl _) (.cells #[.int .i64 0, .int .i64 2, .int .i64 1, .int .i64 0, .int .i64 3, .int .i64 5] 27)).trans (HV.out.2.mono (by simp))
    exact ⟨(HB.out.1).trans (h2.mono (HB.out.1).size), (HB.out.2.1).below h2, (HB.out.2.2.1).below h2, (HB.out.2.2.2).below h2, HV.out.1.is⟩
  clear HV
  go_wp2_with fail
  refine (HT.out _ _ _ _).mono ?_
  rintro e w14 ⟨rfl, hb⟩
  replace HB : Hid (Below w.heap.size w w14 ∧ IS w14 a1 [5, 6] ∧ IS w14 a2 [2, 7] ∧ IS w14 a3 [2, 3, 6] ∧ IS w14 a4 [2, 3]) := by
    have h2 := hb
    exact ⟨(HB.out.1).trans (h2.mono (HB.out.1).size), (HB.out.2.1).below h2, (HB.out.2.2.1).below h2, (HB.out.2.2.2.1).below h2, (HB.out.2.2.2.2).below h2⟩
  clear hb
  go_wp2_with fail
  refine (HT.out _ _ _ _).mono ?_
  rintro e w15 ⟨rfl, hb⟩
  replace HB : Hid (Below w.heap.size w w15 ∧ IS w15 a1 [5, 6] ∧ IS w15 a2 [2, 7] ∧ IS w15 a3 [2, 3, 6] ∧ IS w15 a4 [2, 3]) := by
    have h2 := hb
    exact ⟨(HB.out.1).trans (h2.mono (HB.out.1).size), (HB.out.2.1).below h2, (HB.out.2.2.1).below h2, (HB.out.2.2.2.1).below h2, (HB.out.2.2.2.2).below h2⟩
  clear hb
  go_wp2_with fail
  refine (H5.out _ _ (Bk.new _ _ _)).mono ?_
  rintro e w16 ⟨a5, rfl, HV⟩
  replace HB : Hid (Below w.heap.size w w16 ∧ IS w16 a1 [5, 6] ∧ IS w16 a2 [2, 7] ∧ IS w16 a3 [2, 3, 6] ∧ IS w16 a4 [2, 3] ∧ IS w16 a5 [4, 5]) := by
    have h2 := ((Below.refl _ w15).alloc (Nat.le_refl _) (.cells #[.int .i64 4, .int .i64 0, .int .i64 1, .int .i64 5, .int .i64 0, .int .i64 9] 27)).trans (HV.out.2.mono (by simp))
    exact ⟨(HB.out.1).trans (h2.mono (HB.out.1).size), (HB.out.2.1).below h2, (HB.out.2.2.1).below h2, (HB.out.2.2.2.1).below h2, (HB.out.2.2.2.2).below h2, HV.out.1.is⟩
  clear HV
  go_wp2_with fail
  refine (HT.out _ _ _ _).mono ?_
  rintro e w17 ⟨rfl, hb⟩
  replace HB : Hid (Below w.heap.size w w17 ∧ IS w17 a1 [5, 6] ∧ IS w17 a2 [2, 7] ∧ IS w17 a3 [2, 3, 6] ∧ IS w17 a4 [2, 3] ∧ IS w17 a5 [4, 5]) := by
    have h2 := hb
    exact ⟨(HB.out.1).trans (h2.mono (HB.out.1).size), (HB.out.2.1).below h2, (HB.out.2.2.1).below h2, (HB.out.2.2.2.1).below h2, (HB.out.2.2.2.2.1).below h2, (HB.out.2.2.2.2.2).below h2⟩
  clear hb
  go_wp2_with fail
  refine (HT.out _ _ _ _).mono ?_
  rintro e w18 ⟨rfl, hb⟩
  replace HB : Hid (Below w.heap.size w w18 ∧ IS w18 a1 [5, 6] ∧ IS w18 a2 [2, 7] ∧ IS w18 a3 [2, 3, 6] ∧ IS w18 a4 [2, 3] ∧ IS w18 a5 [4, 5]) := by
    have h2 := hb
    exact ⟨(HB.out.1).trans (h2.mono (HB.out.1).size), (HB.out.2.1).below h2, (HB.out.2.2.1).below h2, (HB.out.2.2.2.1).below h2, (HB.out.2.2.2.2.1).below h2, (HB.out.2.2.2.2.2).below h2⟩
  clear hb
  go_wp2_with fail
  refine (HT.out _ _ _ _).mono ?_
  rintro e w19 ⟨rfl, hb⟩
  replace HB : Hid (Below w.heap.size w w19 ∧ IS w19 a1 [5, 6] ∧ IS w19 a2 [2, 7] ∧ IS w19 a3 [2, 3, 6] ∧ IS w19 a4 [2, 3] ∧ IS w19 a5 [4, 5]) := by
    have h2 := hb
    exact ⟨(HB.out.1).trans (h2.mono (HB.out.1).size), (HB.out.2.1).below h2, (HB.out.2.2.1).below h2, (HB.out.2.2.2.1).below h2, (HB.out.2.2.2.2.1).below h2, (HB.out.2.2.2.2.2).below h2⟩
  clear hb
  go_wp2_with fail
  refine (H6.out _ _ (Bk.new _ _ _)).mono ?_
  rintro e w20 ⟨a6, rfl, HV⟩
  replace HB : Hid (Below w.heap.size w w20 ∧ IS w20 a1 [5, 6] ∧ IS w20 a2 [2, 7] ∧ IS w20 a3 [2, 3, 6] ∧ IS w20 a4 [2, 3] ∧ IS w20 a5 [4, 5] ∧ IS w20 a6 [2, 2, 1]) := by
    have h2 := ((Below.refl _ w19).alloc (Nat.le_refl _) (.cells #[.int .i64 0, .int .i64 0, .int .i64 1, .int .i64 0, .int .i64 0, .int .i64 1, .int .i64 0, .int .i64 0, .int .i64 1] 27)).trans (HV.out.2.mono (by simp))
    exact ⟨(HB.out.1).trans (h2.mono (HB.out.1).size), (HB.out.2.1).below h2, (HB.out.2.2.1).below h2, (HB.out.2.2.2.1).below h2, (HB.out.2.2.2.2.1).below h2, (HB.out.2.2.2.2.2).below h2, HV.out.1.is⟩
  clear HV
  go_wp2_with fail
  refine (HT.out _ _ _ _).mono ?_
  rintro e w21 ⟨rfl, hb⟩
  replace HB : Hid (Below w.heap.size w w21 ∧ IS w21 a1 [5, 6] ∧ IS w21 a2 [2, 7] ∧ IS w21 a3 [2, 3, 6] ∧ IS w21 a4 [2, 3] ∧ IS w21 a5 [4, 5] ∧ IS w21 a6 [2, 2, 1]) := by
    have h2 := hb
    exact ⟨(HB.out.1).trans (h2.mono (HB.out.1).size), (HB.out.2.1).below h2, (HB.out.2.2.1).below h2, (HB.out.2.2.2.1).below h2, (HB.out.2.2.2.2.1).below h2, (HB.out.2.2.2.2.2.1).below h2, (HB.out.2.2.2.2.2.2).below h2⟩
  clear hb
  go_wp2_with fail
  refine (H7.out _ _ (Bk.new _ _ _)).mono ?_
  rintro e w22 ⟨z22, rfl, HV⟩
  replace HB : Hid (Below w.heap.size w w22 ∧ IS w22 a1 [5, 6] ∧ IS w22 a2 [2, 7] ∧ IS w22 a3 [2, 3, 6] ∧ IS w22 a4 [2, 3] ∧ IS w22 a5 [4, 5] ∧ IS w22 a6 [2, 2, 1]) := by
    have h2 := ((Below.refl _ w21).alloc (Nat.le_refl _) (.cells #[.int .i64 5, .int .i64 4, .int .i64 0] 27)).trans (HV.out.2.mono (by simp))
    exact ⟨(HB.out.1).trans (h2.mono (HB.out.1).size), (HB.out.2.1).below h2, (HB.out.2.2.1).below h2, (HB.out.2.2.2.1).below h2, (HB.out.2.2.2.2.1).below h2, (HB.out.2.2.2.2.2.1).below h2, (HB.out.2.2.2.2.2.2).below h2⟩
  clear HV
  go_wp2_with fail
  refine (H8.out _).mono ?_
  rintro e w23 ⟨z23, rfl, HV⟩
  replace HB : Hid (Below w.heap.size w w23 ∧ IS w23 a1 [5, 6] ∧ IS w23 a2 [2, 7] ∧ IS w23 a3 [2, 3, 6] ∧ IS w23 a4 [2, 3] ∧ IS w23 a5 [4, 5] ∧ IS w23 a6 [2, 2, 1]) := by
    have h2 := HV.out.2
    exact ⟨(HB.out.1).trans (h2.mono (HB.out.1).size), (HB.out.2.1).below h2, (HB.out.2.2.1).below h2, (HB.out.2.2.2.1).below h2, (HB.out.2.2.2.2.1).below h2, (HB.out.2.2.2.2.2.1).below h2, (HB.out.2.2.2.2.2.2).below h2⟩
  clear HV
  go_wp2_with fail
  refine (HT.out _ _ _ _).mono ?_
  rintro e w24 ⟨rfl, hb⟩
  replace HB : Hid (Below w.heap.size w w24 ∧ IS w24 a1 [5, 6] ∧ IS w24 a2 [2, 7] ∧ IS w24 a3 [2, 3, 6] ∧ IS w24 a4 [2, 3] ∧ IS w24 a5 [4, 5] ∧ IS w24 a6 [2, 2, 1]) := by
    have h2 := hb
    exact ⟨(HB.out.1).trans (h2.mono (HB.out.1).size), (HB.out.2.1).below h2, (HB.out.2.2.1).below h2, (HB.out.2.2.2.1).below h2, (HB.out.2.2.2.2.1).below h2, (HB.out.2.2.2.2.2.1).below h2, (HB.out.2.2.2.2.2.2).below h2⟩
  clear hb
  go_wp2_with fail
  refine (HT.out _ _ _ _).mono ?_
  rintro e w25 ⟨rfl, hb⟩
  replace HB : Hid (Below w.heap.size w w25 ∧ IS w25 a1 [5, 6] ∧ IS w25 a2 [2, 7] ∧ IS w25 a3 [2, 3, 6] ∧ IS w25 a4 [2, 3] ∧ IS w25 a5 [4, 5] ∧ IS w25 a6 [2, 2, 1]) := by
    have h2 := hb
    exact ⟨(HB.out.1).trans (h2.mono (HB.out.1).size), (HB.out.2.1).below h2, (HB.out.2.2.1).below h2, (HB.out.2.2.2.1).below h2, (HB.out.2.2.2.2.1).below h2, (HB.out.2.2.2.2.2.1).below h2, (HB.out.2.2.2.2.2.2).below h2⟩
  clear hb
  go_wp2_with fail
  refine (H9.out _ _ (Bk.new _ _ _)).mono ?_
  rintro e w26 ⟨rfl, hb⟩
  replace HB : Hid (Below w.heap.size w w26 ∧ IS w26 a1 [5, 6] ∧ IS w26 a2 [2, 7] ∧ IS w26 a3 [2, 3, 6] ∧ IS w26 a4 [2, 3] ∧ IS w26 a5 [4, 5] ∧ IS w26 a6 [2, 2, 1]) := by
    have h2 := ((Below.refl _ w25).alloc (Nat.le_refl _) (.cells #[.int .i64 2, .int .i64 0, .int .i64 1, .int .i64 3, .int .i64 9, .int .i64 0] 27)).trans (hb.mono (by simp))
    exact ⟨(HB.out.1).trans (h2.mono (HB.out.1).size), (HB.out.2.1).below h2, (HB.out.2.2.1).below h2, (HB.out.2.2.2.1).below h2, (HB.out.2.2.2.2.1).below h2, (HB.out.2.2.2.2.2.1).below h2, (HB.out.2.2.2.2.2.2).below h2⟩
  clear hb
  go_wp2_with fail
  refine (HT.out _ _ _ _).mono ?_
  rintro e w27 ⟨rfl, hb⟩
  replace HB : Hid (Below w.heap.size w w27 ∧ IS w27 a1 [5, 6] ∧ IS w27 a2 [2, 7] ∧ IS w27 a3 [2, 3, 6] ∧ IS w27 a4 [2, 3] ∧ IS w27 a5 [4, 5] ∧ IS w27 a6 [2, 2, 1]) := by
    have h2 := hb
    exact ⟨(HB.out.1).trans (h2.mono (HB.out.1).size), (HB.out.2.1).below h2, (HB.out.2.2.1).below h2, (HB.out.2.2.2.1).below h2, (HB.out.2.2.2.2.1).below h2, (HB.out.2.2.2.2.2.1).below h2, (HB.out.2.2.2.2.2.2).below h2⟩
  clear hb
  go_wp2_with fail
  refine (HT.out _ _ _ _).mono ?_
  rintro e w28 ⟨rfl, hb⟩
  replace HB : Hid (Below w.heap.size w w28 ∧ IS w28 a1 [5, 6] ∧ IS w28 a2 [2, 7] ∧ IS w28 a3 [2, 3, 6] ∧ IS w28 a4 [2, 3] ∧ IS w28 a5 [4, 5] ∧ IS w28 a6 [2, 2, 1]) := by
    have h2 := hb
    exact ⟨(HB.out.1).trans (h2.mono (HB.out.1).size), (HB.out.2.1).below h2, (HB.out.2.2.1).below h2, (HB.out.2.2.2.1).below h2, (HB.out.2.2.2.2.1).below h2, (HB.out.2.2.2.2.2.1).below h2, (HB.out.2.2.2.2.2.2).below h2⟩
  clear hb
  go_wp2_with fail
  refine (H10.out _ _ (Bk.new _ _ _)).mono ?_
  rintro e w29 ⟨rfl, hb⟩
  replace HB : Hid (Below w.heap.size w w29 ∧ IS w29 a1 [5, 6] ∧ IS w29 a2 [2, 7] ∧ IS w29 a3 [2, 3, 6] ∧ IS w29 a4 [2, 3] ∧ IS w29 a5 [4, 5] ∧ IS w29 a6 [2, 2, 1]) := by
    have h2 := ((Below.refl _ w28).alloc (Nat.le_refl _) (.cells #[.int .i64 2, .int .i64 0, .int .i64 1, .int .i64 3, .int .i64 9, .int .i64 0] 27)).trans (hb.mono (by simp))
    exact ⟨(HB.out.1).trans (h2.mono (HB.out.1).size), (HB.out.2.1).below h2, (HB.out.2.2.1).below h2, (HB.out.2.2.2.1).below h2, (HB.out.2.2.2.2.1).below h2, (HB.out.2.2.2.2.2.1).below h2, (HB.out.2.2.2.2.2.2).below h2⟩
  clear hb
  go_wp2_with fail
  refine (HT.out _ _ _ _).mono ?_
  rintro e w30 ⟨rfl, hb⟩
  replace HB : Hid (Below w.heap.size w w30 ∧ IS w30 a1 [5, 6] ∧ IS w30 a2 [2, 7] ∧ IS w30 a3 [2, 3, 6] ∧ IS w30 a4 [2, 3] ∧ IS w30 a5 [4, 5] ∧ IS w30 a6 [2, 2, 1]) := by
    have h2 := hb
    exact ⟨(HB.out.1).trans (h2.mono (HB.out.1).size), (HB.out.2.1).below h2, (HB.out.2.2.1).below h2, (HB.out.2.2.2.1).below h2, (HB.out.2.2.2.2.1).below h2, (HB.out.2.2.2.2.2.1).below h2, (HB.out.2.2.2.2.2.2).below h2⟩
  clear hb
  go_wp2_with fail
  refine (HT.out _ _ _ _).mono ?_
  rintro e w31 ⟨rfl, hb⟩
  replace HB : Hid (Below w.heap.size w w31 ∧ IS w31 a1 [5, 6] ∧ IS w31 a2 [2, 7] ∧ IS w31 a3 [2, 3, 6] ∧ IS w31 a4 [2, 3] ∧ IS w31 a5 [4, 5] ∧ IS w31 a6 [2, 2, 1]) := by
    have h2 := hb
    exact ⟨(HB.out.1).trans (h2.mono (HB.out.1).size), (HB.out.2.1).below h2, (HB.out.2.2.1).below h2, (HB.out.2.2.2.1).below h2, (HB.out.2.2.2.2.1).below h2, (HB.out.2.2.2.2.2.1).below h2, (HB.out.2.2.2.2.2.2).below h2⟩
  clear hb
  go_wp2_with fail
  refine (H11.out _ _ (Bk.new _ _ _)).mono ?_
  rintro e w32 ⟨rfl, hb⟩
  replace HB : Hid (Below w.heap.size w w32 ∧ IS w32 a1 [5, 6] ∧ IS w32 a2 [2, 7] ∧ IS w32 a3 [2, 3, 6] ∧ IS w32 a4 [2, 3] ∧ IS w32 a5 [4, 5] ∧ IS w32 a6 [2, 2, 1]) := by
    have h2 := ((Below.refl _ w31).alloc (Nat.le_refl _) (.cells #[.int .i64 2, .int .i64 5, .int .i64 1, .int .i64 3, .int .i64 9, .int .i64 0] 27)).trans (hb.mono (by simp))
    exact ⟨(HB.out.1).trans (h2.mono (HB.out.1).size), (HB.out.2.1).below h2, (HB.out.2.2.1).below h2, (HB.out.2.2.2.1).below h2, (HB.out.2.2.2.2.1).below h2, (HB.out.2.2.2.2.2.1).below h2, (HB.out.2.2.2.2.2.2).below h2⟩
  clear hb
  go_wp2_with fail
  refine (H12.out _ _ (Bk.new _ _ _)).mono ?_
  rintro e w33 ⟨a7, rfl, HV⟩
  replace HB : Hid (Below w.heap.size w w33 ∧ IS w33 a1 [5, 6] ∧ IS w33 a2 [2, 7] ∧ IS w33 a3 [2, 3, 6] ∧ IS w33 a4 [2, 3] ∧ IS w33 a5 [4, 5] ∧ IS w33 a6 [2, 2, 1] ∧ IS w33 a7 [0, 4, 5]) := by
    have h2 := ((Below.refl _ w32).alloc (Nat.le_refl _) (.cells #[.int .i64 3, .int .i64 0, .int .i64 2] 3)).trans (HV.out.2.mono (by simp))
    exact ⟨(HB.out.1).trans (h2.mono (HB.out.1).size), (HB.out.2.1).below h2, (HB.out.2.2.1).below h2, (HB.out.2.2.2.1).below h2, (HB.out.2.2.2.2.1).below h2, (HB.out.2.2.2.2.2.1).below h2, (HB.out.2.2.2.2.2.2).below h2, HV.out.1.is⟩
  clear HV
  go_wp2_with fail
  refine (H13.out _).mono ?_
  rintro e w34 ⟨z34, rfl, HV⟩
  replace HB : Hid (Below w.heap.size w w34 ∧ IS w34 a1 [5, 6] ∧ IS w34 a2 [2, 7] ∧ IS w34 a3 [2, 3, 6] ∧ IS w34 a4 [2, 3] ∧ IS w34 a5 [4, 5] ∧ IS w34 a6 [2, 2, 1] ∧ IS w34 a7 [0, 4, 5]) := by
    have h2 := HV.out.2
    exact ⟨(HB.out.1).trans (h2.mono (HB.out.1).size), (HB.out.2.1).below h2, (HB.out.2.2.1).below h2, (HB.out.2.2.2.1).below h2, (HB.out.2.2.2.2.1).below h2, (HB.out.2.2.2.2.2.1).below h2, (HB.out.2.2.2.2.2.2.1).below h2, (HB.out.2.2.2.2.2.2.2).below h2⟩
  clear HV
  go_wp2_with fail
  refine (HT.out _ _ _ _).mono ?_
  rintro e w35 ⟨rfl, hb⟩
  replace HB : Hid (Below w.heap.size w w35 ∧ IS w35 a1 [5, 6] ∧ IS w35 a2 [2, 7] ∧ IS w35 a3 [2, 3, 6] ∧ IS w35 a4 [2, 3] ∧ IS w35 a5 [4, 5] ∧ IS w35 a6 [2, 2, 1] ∧ IS w35 a7 [0, 4, 5]) := by
    have h2 := hb
    exact ⟨(HB.out.1).trans (h2.mono (HB.out.1).size), (HB.out.2.1).below h2, (HB.out.2.2.1).below h2, (HB.out.2.2.2.1).below h2, (HB.out.2.2.2.2.1).below h2, (HB.out.2.2.2.2.2.1).below h2, (HB.out.2.2.2.2.2.2.1).below h2, (HB.out.2.2.2.2.2.2.2).below h2⟩
  clear hb
  go_wp2_with fail
  refine (HT.out _ _ _ _).mono ?_
  rintro e w36 ⟨rfl, hb⟩
  replace HB : Hid (Below w.heap.size w w36 ∧ IS w36 a1 [5, 6] ∧ IS w36 a2 [2, 7] ∧ IS w36 a3 [2, 3, 6] ∧ IS w36 a4 [2, 3] ∧ IS w36 a5 [4, 5] ∧ IS w36 a6 [2, 2, 1] ∧ IS w36 a7 [0, 4, 5]) := by
    have h2 := hb
    exact ⟨(HB.out.1).trans (h2.mono (HB.out.1).size), (HB.out.2.1).below h2, (HB.out.2.2.1).below h2, (HB.out.2.2.2.1).below h2, (HB.out.2.2.2.2.1).below h2, (HB.out.2.2.2.2.2.1).below h2, (HB.out.2.2.2.2.2.2.1).below h2, (HB.out.2.2.2.2.2.2.2).below h2⟩
  clear hb
  go_wp2_with fail
  refine (H14.out _ _ (Bk.new _ _ _)).mono ?_
  rintro e w37 ⟨a8, a9, rfl, HV⟩
  replace HB : Hid (Below w.heap.size w w37 ∧ IS w37 a1 [5, 6] ∧ IS w37 a2 [2, 7] ∧ IS w37 a3 [2, 3, 6] ∧ IS w37 a4 [2, 3] ∧ IS w37 a5 [4, 5] ∧ IS w37 a6 [2, 2, 1] ∧ IS w37 a7 [0, 4, 5] ∧ IS w37 a8 [1, 1] ∧ IS w37 a9 [0, 31]) := by
    have h2 := ((Below.refl _ w36).alloc (Nat.le_refl _) (.cells #[.int .i64 1, .int .i64 0, .int .i64 1, .int .i64 1, .int .i64 0, .int .i64 1] 27)).trans (HV.out.2.2.2.mono (by simp))
    exact ⟨(HB.out.1).trans (h2.mono (HB.out.1).size), (HB.out.2.1).below h2, (HB.out.2.2.1).below h2, (HB.out.2.2.2.1).below h2, (HB.out.2.2.2.2.1).below h2, (HB.out.2.2.2.2.2.1).below h2, (HB.out.2.2.2.2.2.2.1).below h2, (HB.out.2.2.2.2.2.2.2).below h2, HV.out.1.is, HV.out.2.1.is⟩
  clear HV
  have hmk := HMk.out w37
  go_wp2_with fail
  refine (HNm.out _ _ (Bk.new _ _ _)).mono ?_
  rintro e w38 ⟨rfl, hb⟩
  replace HB : Hid (Below w.heap.size w w38 ∧ IS w38 a1 [5, 6] ∧ IS w38 a2 [2, 7] ∧ IS w38 a3 [2, 3, 6] ∧ IS w38 a4 [2, 3] ∧ IS w38 a5 [4, 5] ∧ IS w38 a6 [2, 2, 1] ∧ IS w38 a7 [0, 4, 5] ∧ IS w38 a8 [1, 1] ∧ IS w38 a9 [0, 31]) := by
    have h2 := ((Below.refl _ w37).alloc (Nat.le_refl _) (.cells mkT 27)).trans (hb.mono (by simp))
    exact ⟨(HB.out.1).trans (h2.mono (HB.out.1).size), (HB.out.2.1).below h2, (HB.out.2.2.1).below h2, (HB.out.2.2.2.1).below h2, (HB.out.2.2.2.2.1).below h2, (HB.out.2.2.2.2.2.1).below h2, (HB.out.2.2.2.2.2.2.1).below h2, (HB.out.2.2.2.2.2.2.2.1).below h2, (HB.out.2.2.2.2.2.2.2.2.1).below h2, (HB.out.2.2.2.2.2.2.2.2.2).below h2⟩
  clear hb hmk
  go_wp2_with fail
  refine (HI2.out _ _ _ _ _ ((HB.out.2.1).below ((Below.refl _ w38).alloc (Nat.le_refl _) _)) (Bk.new _ _ _)).mono ?_
  rintro e w39 ⟨rfl, hb⟩
  replace HB : Hid (Below w.heap.size w w39 ∧ IS w39 a2 [2, 7] ∧ IS w39 a3 [2, 3, 6] ∧ IS w39 a4 [2, 3] ∧ IS w39 a5 [4, 5] ∧ IS w39 a6 [2, 2, 1] ∧ IS w39 a7 [0, 4, 5] ∧ IS w39 a8 [1, 1] ∧ IS w39 a9 [0, 31]) := by
    have h2 := ((Below.refl _ w38).alloc (Nat.le_refl _) (.cells #[.int .i64 5, .int .i64 6] 3)).trans (hb.mono (by simp))
    exact ⟨(HB.out.1).trans (h2.mono (HB.out.1).size), (HB.out.2.2.1).below h2, (HB.out.2.2.2.1).below h2, (HB.out.2.2.2.2.1).below h2, (HB.out.2.2.2.2.2.1).below h2, (HB.out.2.2.2.2.2.2.1).below h2, (HB.out.2.2.2.2.2.2.2.1).below h2, (HB.out.2.2.2.2.2.2.2.2.1).below h2, (HB.out.2.2.2.2.2.2.2.2.2).below h2⟩
  clear hb
  go_wp2_with fail
  refine (HI2.out _ _ _ _ _ ((HB.out.2.1).below ((Below.refl _ w39).alloc (Nat.le_refl _) _)) (Bk.new _ _ _)).mono ?_
  rintro e w40 ⟨rfl, hb⟩
  replace HB : Hid (Below w.heap.size w w40 ∧ IS w40 a3 [2, 3, 6] ∧ IS w40 a4 [2, 3] ∧ IS w40 a5 [4, 5] ∧ IS w40 a6 [2, 2, 1] ∧ IS w40 a7 [0, 4, 5] ∧ IS w40 a8 [1, 1] ∧ IS w40 a9 [0, 31]) := by
    have h2 := ((Below.refl _ w39).alloc (Nat.le_refl _) (.cells #[.int .i64 2, .int .i64 7] 3)).trans (hb.mono (by simp))
    exact ⟨(HB.out.1).trans (h2.mono (HB.out.1).size), (HB.out.2.2.1).below h2, (HB.out.2.2.2.1).below h2, (HB.out.2.2.2.2.1).below h2, (HB.out.2.2.2.2.2.1).below h2, (HB.out.2.2.2.2.2.2.1).below h2, (HB.out.2.2.2.2.2.2.2.1).below h2, (HB.out.2.2.2.2.2.2.2.2).below h2⟩
  clear hb
  go_wp2_with fail
  refine (HI3.out _ _ _ _ _ _ ((HB.out.2.1).below ((Below.refl _ w40).alloc (Nat.le_refl _) _)) (Bk.new _ _ _)).mono ?_
  rintro e w41 ⟨rfl, hb⟩
  replace HB : Hid (Below w.heap.size w w41 ∧ IS w41 a4 [2, 3] ∧ IS w41 a5 [4, 5] ∧ IS w41 a6 [2, 2, 1] ∧ IS w41 a7 [0, 4, 5] ∧ IS w41 a8 [1, 1] ∧ IS w41 a9 [0, 31]) := by
    have h2 := ((Below.refl _ w40).alloc (Nat.le_refl _) (.cells #[.int .i64 2, .int .i64 3, .int .i64 6] 3)).trans (hb.mono (by simp))
    exact ⟨(HB.out.1).trans (h2.mono (HB.out.1).size), (HB.out.2.2.1).below h2, (HB.out.2.2.2.1).below h2, (HB.out.2.2.2.2.1).below h2, (HB.out.2.2.2.2.2.1).below h2, (HB.out.2.2.2.2.2.2.1).below h2, (HB.out.2.2.2.2.2.2.2).below h2⟩
  clear hb
  go_wp2_with fail
  refine (HI2.out _ _ _ _ _ ((HB.out.2.1).below ((Below.refl _ w41).alloc (Nat.le_refl _) _)) (Bk.new _ _ _)).mono ?_
  rintro e w42 ⟨rfl, hb⟩
  replace HB : Hid (Below w.heap.size w w42 ∧ IS w42 a5 [4, 5] ∧ IS w42 a6 [2, 2, 1] ∧ IS w42 a7 [0, 4, 5] ∧ IS w42 a8 [1, 1] ∧ IS w42 a9 [0, 31]) := by
    have h2 := ((Below.refl _ w41).alloc (Nat.le_refl _) (.cells #[.int .i64 2, .int .i64 3] 3)).trans (hb.mono (by simp))
    exact ⟨(HB.out.1).trans (h2.mono (HB.out.1).size), (HB.out.2.2.1).below h2, (HB.out.2.2.2.1).below h2, (HB.out.2.2.2.2.1).below h2, (HB.out.2.2.2.2.2.1).below h2, (HB.out.2.2.2.2.2.2).below h2⟩
  clear hb
  go_wp2_with fail
  refine (HI2.out _ _ _ _ _ ((HB.out.2.1).below ((Below.refl _ w42).alloc (Nat.le_refl _) _)) (Bk.new _ _ _)).mono ?_
  rintro e w43 ⟨rfl, hb⟩
  replace HB : Hid (Below w.heap.size w w43 ∧ IS w43 a6 [2, 2, 1] ∧ IS w43 a7 [0, 4, 5] ∧ IS w43 a8 [1, 1] ∧ IS w43 a9 [0, 31]) := by
    have h2 := ((Below.refl _ w42).alloc (Nat.le_refl _) (.cells #[.int .i64 4, .int .i64 5] 3)).trans (hb.mono (by simp))
    exact ⟨(HB.out.1).trans (h2.mono (HB.out.1).size), (HB.out.2.2.1).below h2, (HB.out.2.2.2.1).below h2, (HB.out.2.2.2.2.1).below h2, (HB.out.2.2.2.2.2).below h2⟩
  clear hb
  go_wp2_with fail
  refine (HI3.out _ _ _ _ _ _ ((HB.out.2.1).below ((Below.refl _ w43).alloc (Nat.le_refl _) _)) (Bk.new _ _ _)).mono ?_
  rintro e w44 ⟨rfl, hb⟩
  replace HB : Hid (Below w.heap.size w w44 ∧ IS w44 a7 [0, 4, 5] ∧ IS w44 a8 [1, 1] ∧ IS w44 a9 [0, 31]) := by
    have h2 := ((Below.refl _ w43).alloc (Nat.le_refl _) (.cells #[.int .i64 2, .int .i64 2, .int .i64 1] 3)).trans (hb.mono (by simp))
    exact ⟨(HB.out.1).trans (h2.mono (HB.out.1).size), (HB.out.2.2.1).below h2, (HB.out.2.2.2.1).below h2, (HB.out.2.2.2.2).below h2⟩
  clear hb
  go_wp2_with fail
  refine (HI3.out _ _ _ _ _ _ ((HB.out.2.1).below ((Below.refl _ w44).alloc (Nat.le_refl _) _)) (Bk.new _ _ _)).mono ?_
  rintro e w45 ⟨rfl, hb⟩
  replace HB : Hid (Below w.heap.size w w45 ∧ IS w45 a8 [1, 1] ∧ IS w45 a9 [0, 31]) := by
    have h2 := ((Below.refl _ w44).alloc (Nat.le_refl _) (.cells #[.int .i64 0, .int .i64 4, .int .i64 5] 3)).trans (hb.mono (by simp))
    exact ⟨(HB.out.1).trans (h2.mono (HB.out.1).size), (HB.out.2.2.1).below h2, (HB.out.2.2.2).below h2⟩
  clear hb
  go_wp2_with fail
  refine (HI2.out _ _ _ _ _ ((HB.out.2.1).below ((Below.refl _ w45).alloc (Nat.le_refl _) _)) (Bk.new _ _ _)).mono ?_
  rintro e w46 ⟨rfl, hb⟩
  replace HB : Hid (Below w.heap.size w w46 ∧ IS w46 a9 [0, 31]) := by
    have h2 := ((Below.refl _ w45).alloc (Nat.le_refl _) (.cells #[.int .i64 1, .int .i64 1] 3)).trans (hb.mono (by simp))
    exact ⟨(HB.out.1).trans (h2.mono (HB.out.1).size), (HB.out.2.2).below h2⟩
  clear hb
  go_wp2_with fail
  refine (HI2.out _ _ _ _ _ ((HB.out.2).below ((Below.refl _ w46).alloc (Nat.le_refl _) _)) (Bk.new _ _ _)).mono ?_
  rintro e w47 ⟨rfl, hb⟩
  replace HB : Hid (Below w.heap.size w w47) := by
    have h2 := ((Below.refl _ w46).alloc (Nat.le_refl _) (.cells #[.int .i64 0, .int .i64 31] 3)).trans (hb.mono (by simp))
    exact (HB.out.1).trans (h2.mono (HB.out.1).size)
  clear hb
  go_wp2_with fail
  refine (HAl.out _).mono ?_
  rintro e w48 ⟨rfl, hb⟩
  replace HB : Hid (Below w.heap.size w w48) := by
    have h2 := hb
    exact (HB.out).trans (h2.mono (HB.out).size)
  clear hb
  go_wp2
  go_ret
  exact ⟨rfl, HB.out⟩

end Go.Proofs.Ytchjmmchflbfcaa
