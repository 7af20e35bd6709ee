/-
  Rows made by the closed statement of package region.
-/
import Derived.Test.YtagkbpceiedikaaGV
namespace Go.Proofs.Ytagkbpceiedikaa
open Go.RowKit Go.Sort Go.Shelf

set_option maxHeartbeats 4000000 in
theorem rowN_any (w : World) : Calls Try.prog 10 #[.int .i64 1025] w fun e w' => ∃ g arr, e = .returned (.slice (some ⟨g, 0, none⟩) 1025 1025) ∧ (Bk w' g arr 35 ∧ OkA rw1 1025 arr) ∧ Below w.heap.size w w' := by
  obtain ⟨arr0, hsz, hmk⟩ := make_rects w
  have hb0 : Below w.heap.size w (w.alloc (.cells arr0 35)) := (Below.refl _ _).alloc (Nat.le_refl _) _
  have H0 : Hid (Below w.heap.size w (w.alloc (.cells arr0 35)) ∧ Bk (w.alloc (.cells arr0 35)) w.heap.size arr0 35 ∧ OkA rw1 0 arr0) := ⟨hb0, Bk.new _ _ _, hsz, fun i hi => absurd hi (Nat.not_lt_zero i)⟩
  clear hb0 hsz
  go_enter Try.func10, Try.ntmps10
  go_wp2_with fail
  clear hmk
  generalize w.alloc (.cells arr0 35) = w1 at *
  obtain ⟨n, HN⟩ : ∃ n, Hid (n = w.heap.size) := ⟨_, rfl⟩
  rw [← HN.out] at H0 ⊢
  go_loopw [4] (fun vi wr => ∃ k : Nat, k ≤ 1025 ∧ vi = .int .i64 k ∧ Hid (∃ arr, Below n w wr ∧ Bk wr n arr 35 ∧ OkA rw1 k arr)) (fun vi _ => 1025 - (intOf vi).toNat)
  case atStart => exact ⟨0, Nat.zero_le _, rfl, ⟨arr0, H0.out⟩⟩
  case round =>
    obtain ⟨k, hk, rfl, HR⟩ := hrel
    clear H0
    by_cases hlt : k < 1025
    · have ik : (k : Int) < 1025 := by omega
      obtain ⟨arr, L, B, O⟩ := HR.out
      have f1 := B.frozen
      have c0 : wr.cell? ⟨n, k * 4, none⟩ = some (arr[k * 4]'(by rw [O.1]; omega)) := (B.cell _).trans (Array.getElem?_eq_getElem _)
      have c1 : wr.cell? ⟨n, k * 4 + 1, none⟩ = some (arr[k * 4 + 1]'(by rw [O.1]; omega)) := (B.cell _).trans (Array.getElem?_eq_getElem _)
      have c2 : wr.cell? ⟨n, k * 4 + 2, none⟩ = some (arr[k * 4 + 2]'(by rw [O.1]; omega)) := (B.cell _).trans (Array.getElem?_eq_getElem _)
      have c3 : wr.cell? ⟨n, k * 4 + 3, none⟩ = some (arr[k * 4 + 3]'(by rw [O.1]; omega)) := (B.cell _).trans (Array.getElem?_eq_getElem _)
      have hbl := B.lt
      have HS : Hid (∃ arr', Below n w ((((wr.setCell ⟨n, k * 4, none⟩ (.int .i64 (2 * (k : Int)))).setCell ⟨n, k * 4 + 1, none⟩ (.int .i64 0)).setCell ⟨n, k * 4 + 2, none⟩ (.int .i64 1)).setCell ⟨n, k * 4 + 3, none⟩ (.int .i64 1)) ∧ Bk ((((wr.setCell ⟨n, k * 4, none⟩ (.int .i64 (2 * (k : Int)))).setCell ⟨n, k * 4 + 1, none⟩ (.int .i64 0)).setCell ⟨n, k * 4 + 2, none⟩ (.int .i64 1)).setCell ⟨n, k * 4 + 3, none⟩ (.int .i64 1)) n arr' 35 ∧ OkA rw1 (k + 1) arr') :=
        ⟨_, (((L.setCell (p := ⟨n, k * 4, none⟩) (Nat.le_refl _) _).setCell (p := ⟨n, k * 4 + 1, none⟩) (Nat.le_refl _) _).setCell (p := ⟨n, k * 4 + 2, none⟩) (Nat.le_refl _) _).setCell (p := ⟨n, k * 4 + 3, none⟩) (Nat.le_refl _) _, (((B.put (k * 4) _).put (k * 4 + 1) _).put (k * 4 + 2) _).put (k * 4 + 3) _, okA_step O hlt⟩
      generalize arr[k * 4]'(by rw [O.1]; omega) = x0 at c0
      generalize arr[k * 4 + 1]'(by rw [O.1]; omega) = x1 at c1
      generalize arr[k * 4 + 2]'(by rw [O.1]; omega) = x2 at c2
      generalize arr[k * 4 + 3]'(by rw [O.1]; omega) = x3 at c3
      clear L B O HR
      go_wp2_with fail
      exact ⟨⟨k + 1, by omega, by go_num, HS.out⟩, by simp [intOf]; omega⟩
    · have ik : ¬ (k : Int) < 1025 := by omega
      obtain rfl : k = 1025 := by omega
      obtain ⟨arr, L, B, O⟩ := HR.out
      have HF : Hid (Below n w wr ∧ Bk wr n arr 35 ∧ OkA rw1 1025 arr) := ⟨L, B, O⟩
      clear L B O HR
      go_wp2
      go_ret
      exact ⟨n, rfl, ⟨arr, HF.out.2⟩, by have h := HF.out.1; rw [HN.out] at h; exact h⟩

theorem i64_rw (n : Nat) (h : n ≤ 1025) : I64s (rwL n) := by
  intro r hr
  obtain ⟨i, hi, rfl⟩ := List.mem_map.1 hr
  have := List.mem_range.1 hi
  unfold rw1 I64
  dsimp only
  omega
theorem rw_len (n : Nat) : (rwL n).length = n := by unfold rwL; rw [List.length_map, List.length_range]
theorem rw_list {W : World} {g : Nat} {arr : Array Value} (hB : Bk W g arr 35 ∧ OkA rw1 1025 arr) (n c : Nat) (hn : n ≤ 1025) (hc : n ≤ c) : LsR W (.slice (some ⟨g, 0, none⟩) n c) (rwL n) := by
  have h := okA_list hB.2 hB.1 0 n c (by omega) hc (rwL n) (rw_len n) (fun i hi => by simp [rwL])
  rw [Nat.zero_mul] at h
  exact h
theorem rw_last {W : World} {g : Nat} {arr : Array Value} (hB : Bk W g arr 35 ∧ OkA rw1 1025 arr) : LsR W (.slice (some ⟨g, 4096, none⟩) 1 1) [rw1 1024] := okA_list hB.2 hB.1 1024 1 1 (by omega) (Nat.le_refl _) [rw1 1024] rfl (fun i hi => by
    obtain rfl : i = 0 := by simp at hi; exact hi
    rfl)
theorem bel_tr {w : World} {W W' : World} (h : Below w.heap.size w W) (h2 : Below W.heap.size W W') : Below w.heap.size w W' := h.trans (h2.mono h.size)

theorem of_one {W : World} {g : Nat} {arr : Array Value} (hB : Bk W g arr 35 ∧ OkA rw1 1025 arr) : Calls Try.prog 11 #[.slice (some ⟨g, 0, none⟩) 1024 1025] W fun e w' => ∃ v, e = .returned (.tuple #[v, .int .i64 0]) ∧ LsR w' v (rwL 1024) ∧ Below W.heap.size W w' := by
  have h := of_any (rwL 1024) _ W (rw_list hB 1024 1025 (by omega) (by omega)) (i64_rw _ (by omega))
  rw [lis_rw 1024 (by omega), form_rw 1024 (by omega) (by omega)] at h
  have e1 : ansL 0 (rwL 1024) = rwL 1024 := by unfold ansL; rw [if_pos ⟨rfl, by rw [rw_len]; omega⟩]
  have e2 : ansE 0 (rwL 1024) = 0 := by unfold ansE; rw [if_pos rfl, if_neg (by rw [rw_len]; omega)]
  rw [e1, e2] at h
  exact h.mono fun e w' ⟨v, he, hv, hb⟩ => ⟨v, he, lsr_own hv, hb⟩
theorem of_two {W : World} {g : Nat} {arr : Array Value} (hB : Bk W g arr 35 ∧ OkA rw1 1025 arr) : Calls Try.prog 11 #[.slice (some ⟨g, 0, none⟩) 1025 1025] W fun e w' => ∃ v, e = .returned (.tuple #[v, .int .i64 4]) ∧ Below W.heap.size W w' := by
  have h := of_any (rwL 1025) _ W (rw_list hB 1025 1025 (by omega) (by omega)) (i64_rw _ (by omega))
  rw [many_rw] at h
  have e2 : ∀ F, ansE 4 F = 4 := fun F => by unfold ansE; rw [if_neg (by decide)]
  rw [e2] at h
  exact h.mono fun e w' ⟨v, he, hv, hb⟩ => ⟨v, he, hb⟩
theorem join_one {W : World} {g : Nat} {arr : Array Value} (hB : Bk W g arr 35 ∧ OkA rw1 1025 arr) : Calls Try.prog 12 #[.slice (some ⟨g, 0, none⟩) 1024 1025, .slice (some ⟨g, 4096, none⟩) 1 1] W fun e w' => ∃ v, e = .returned (.tuple #[v, .int .i64 4]) ∧ Below W.heap.size W w' := by
  have h := joinL_any (rwL 1024) [rw1 1024] _ _ W (rw_list hB 1024 1025 (by omega) (by omega)) (rw_last hB) (i64_rw _ (by omega)) (i64s_of (by decide +kernel)) (fun c hc => by cases hc) (fun c hc => by cases hc)
  have e0 : twoE (rwL 1024) [rw1 1024] = 0 := by unfold twoE; rw [if_pos (lis_rw 1024 (by omega))]; decide +kernel
  rw [e0, ← rw_succ 1024, form_rw 1025 (by omega) (by omega)] at h
  have e2 : ansE 0 (rwL 1025) = 4 := by unfold ansE; rw [if_pos rfl, if_pos (by rw [rw_len]; omega)]
  rw [e2] at h
  exact h.mono fun e w' ⟨v, he, hv, hb⟩ => ⟨v, he, hb⟩
theorem check_one {W : World} {g : Nat} {arr : Array Value} (hB : Bk W g arr 35 ∧ OkA rw1 1025 arr) : Calls Try.prog 13 #[.slice (some ⟨g, 0, none⟩) 1024 1025] W fun e w' => e = .returned (.int .i64 0) ∧ Below W.heap.size W w' := by
  have h := checkL_any (rwL 1024) _ W (rw_list hB 1024 1025 (by omega) (by omega)) (i64_rw _ (by omega))
  have e0 : chkE (rwL 1024) = 0 := by unfold chkE; rw [if_pos (lis_rw 1024 (by omega)), form_rw 1024 (by omega) (by omega), if_pos ((sameB_iff _ _).2 rfl)]
  rw [e0] at h
  exact h
theorem first_one {W : World} {g : Nat} {arr : Array Value} (hB : Bk W g arr 35 ∧ OkA rw1 1025 arr) : LsR W (.slice (some ⟨g, 0, none⟩) 1 1025) [⟨0, 0, 1, 1⟩] := rw_list hB 1 1025 (by omega) (by omega)
theorem moved_one {W : World} {g : Nat} {arr : Array Value} (hB : Bk W g arr 35 ∧ OkA rw1 1025 arr) : Calls Try.prog 15 #[.slice (some ⟨g, 0, none⟩) 1 1025, .agg #[.int .i64 16383, .int .i64 (-16384)]] W fun e w' => ∃ gm cm, e = .returned (.tuple #[.slice (some ⟨gm, 0, none⟩) 1 cm, .int .i64 0]) ∧ LsR w' (.slice (some ⟨gm, 0, none⟩) 1 cm) [⟨16383, -16384, 1, 1⟩] ∧ Below W.heap.size W w' := by
  have h := moved_any [⟨0, 0, 1, 1⟩] _ 16383 (-16384) W (first_one hB) (i64s_of (by decide +kernel))
  rw [mv_one.1, mv_one.2] at h
  refine h.mono fun e w' ⟨v, he, hv, hb⟩ => ?_
  obtain ⟨oa, c, rfl, _, hg⟩ := row_val hv
  obtain ⟨gm, rfl, _⟩ := hg (by decide)
  exact ⟨gm, c, he, lsr_own hv, hb⟩
theorem moved_two {W : World} {g : Nat} {arr : Array Value} (hB : Bk W g arr 35 ∧ OkA rw1 1025 arr) : Calls Try.prog 15 #[.slice (some ⟨g, 0, none⟩) 1 1025, .agg #[.int .i64 16384, .int .i64 0]] W fun e w' => ∃ v, e = .returned (.tuple #[v, .int .i64 5]) ∧ Below W.heap.size W w' := by
  have h := moved_any [⟨0, 0, 1, 1⟩] _ 16384 0 W (first_one hB) (i64s_of (by decide +kernel))
  rw [mv_two.1, mv_two.2] at h
  exact h.mono fun e w' ⟨v, he, hv, hb⟩ => ⟨v, he, hb⟩
theorem moved_three (W : World) : Calls Try.prog 15 #[.slice none 0 0, .agg #[.int .i64 0, .int .i64 65537]] W fun e w' => ∃ v, e = .returned (.tuple #[v, .int .i64 2]) ∧ Below W.heap.size W w' := by
  have h := moved_any [] _ 0 65537 W (lsr_nil W) (fun r hr => by cases hr)
  rw [mv_three.1, mv_three.2] at h
  exact h.mono fun e w' ⟨v, he, hv, hb⟩ => ⟨v, he, hb⟩
theorem moved_four (W : World) : Calls Try.prog 15 #[.slice none 0 0, .agg #[.int .i64 0, .int .i64 (-65536)]] W fun e w' => ∃ v, e = .returned (.tuple #[v, .int .i64 0]) ∧ Below W.heap.size W w' := by
  have h := moved_any [] _ 0 (-65536) W (lsr_nil W) (fun r hr => by cases hr)
  rw [mv_four.1, mv_four.2] at h
  exact h.mono fun e w' ⟨v, he, hv, hb⟩ => ⟨v, he, hb⟩
theorem tw_list {W : World} {g : Nat} {arr : Array Value} (hB : Bk W g arr 35 ∧ OkA (fun _ => ⟨0, 0, 1, 1⟩) 1025 arr) (n c : Nat) (hn : n ≤ 1025) (hc : n ≤ c) : LsR W (.slice (some ⟨g, 0, none⟩) n c) (twL n) := by
  have h := okA_list hB.2 hB.1 0 n c (by omega) hc (twL n) (by unfold twL; rw [List.length_replicate]) (fun i hi => by simp [twL])
  rw [Nat.zero_mul] at h
  exact h
theorem i64_tw (n : Nat) : I64s (twL n) := by
  intro r hr
  obtain rfl := (List.mem_replicate.1 hr).2
  exact ⟨by unfold I64; dsimp only; omega, by unfold I64; dsimp only; omega⟩
theorem area_one {W : World} {g : Nat} {arr : Array Value} (hB : Bk W g arr 35 ∧ OkA (fun _ => ⟨0, 0, 1, 1⟩) 1025 arr) : Calls Try.prog 14 #[.slice (some ⟨g, 0, none⟩) 1024 1025] W fun e w' => e = .returned (.tuple #[.int .i64 1, .int .i64 0]) ∧ Below W.heap.size W w' := by
  have h := areaL_any (twL 1024) _ W (tw_list hB 1024 1025 (by omega) (by omega)) (i64_tw _)
  rw [tw_area.1, tw_area.2.1] at h
  exact h
theorem area_two {W : World} {g : Nat} {arr : Array Value} (hB : Bk W g arr 35 ∧ OkA (fun _ => ⟨0, 0, 1, 1⟩) 1025 arr) : Calls Try.prog 14 #[.slice (some ⟨g, 0, none⟩) 1025 1025] W fun e w' => e = .returned (.tuple #[.int .i64 0, .int .i64 4]) ∧ Below W.heap.size W w' := by
  have h := areaL_any (twL 1025) _ W (tw_list hB 1025 1025 (by omega) (by omega)) (i64_tw _)
  rw [tw_area.2.2.1, tw_area.2.2.2] at h
  exact h

set_option maxHeartbeats 1000000 in
theorem sameW_any (rs qs : List Rc) (v1 v2 : Value) (w : World) (h1 : LsR w v1 rs) (h2 : LsR w v2 qs) (hl : rs.length < 1000000000) :
    Calls Try.prog 18 #[v1, v2] w fun e w' => e = .returned (.bool (sameB rs qs)) ∧ Below w.heap.size w w' := by
  have H : Hid (Calls Try.prog 51 #[v1, v2] w fun e w' => e = .returned (.bool (sameB rs qs)) ∧ Below w.heap.size w w') := sameL_any rs qs v1 v2 w h1 h2 hl
  clear h1 h2
  go_enter Try.func18, Try.ntmps18
  go_wp2_with fail
  refine H.out.mono ?_
  rintro e w1 ⟨rfl, hb⟩
  go_wp2
  go_ret
  exact ⟨rfl, hb⟩

end Go.Proofs.Ytagkbpceiedikaa
