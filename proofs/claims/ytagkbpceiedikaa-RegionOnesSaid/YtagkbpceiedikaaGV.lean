/-
  For the closed statement of package region: rows of rectangles beside one another, and what comes of them.
-/
import Derived.Test.YtagkbpceiedikaaGU
namespace Go.Proofs.Ytagkbpceiedikaa
open Go.RowKit Go.Sort Go.Shelf

def rw1 (i : Nat) : Rc := ⟨2 * (i : Int), 0, 1, 1⟩
def rwL (n : Nat) : List Rc := (List.range n).map rw1
def twL (n : Nat) : List Rc := List.replicate n ⟨0, 0, 1, 1⟩
def sp1 (i : Nat) : Sp := (2 * (i : Int), 2 * (i : Int) + 1)
theorem keep_rw {i : Nat} (h : i < 1025) : keepE (rw1 i) = true := by
  rw [keepE_iff]
  unfold rw1
  dsimp only
  omega
theorem can_rw : ∀ (n k : Nat) (a : Int), a ≤ 2 * (k : Int) → Can a ((List.range' k n).map sp1)
  | 0, _, _, _ => trivial
  | n + 1, k, a, h => by
    rw [List.range'_succ, List.map_cons]
    refine ⟨h, by unfold sp1; dsimp only; omega, can_rw n (k + 1) _ ?_⟩
    unfold sp1
    dsimp only
    omega
theorem form_rw (n : Nat) (h0 : 0 < n) (hn : n ≤ 1025) : formF false (rwL n) [] = rwL n := by
  have hb : bandsR false (rwL n) [] = [(0, 1, (List.range n).map sp1)] := by
    obtain ⟨⟨z, h1⟩, h2⟩ := bandsR_ban false (rwL n) []
    refine ban_unique h1 (z' := 1) ⟨Int.le_refl _, by show (0 : Int) < 1; decide, ?_, trivial, trivial⟩ fun y => ?_
    · intro h
      have h := congrArg List.length h
      simp at h
      omega
    · rw [h2]
      obtain ⟨c1, c2⟩ := rowW_can false (rwL n) [] y
      have c3 : Can (-16384) ((List.range n).map sp1) := by
        rw [List.range_eq_range']
        exact can_rw n 0 _ (by omega)
      rw [fAt]
      dsimp only
      by_cases hy : 0 ≤ y ∧ y < 1
      · rw [if_pos hy]
        refine can_unique c1 c3 fun x => ?_
        rw [c2]
        unfold keepP inS cov
        constructor
        · rintro ⟨⟨r, hr, hk, p1, p2, _⟩, _⟩
          obtain ⟨i, hi, rfl⟩ := List.mem_map.1 hr
          exact ⟨sp1 i, List.mem_map.2 ⟨i, hi, rfl⟩, p1, p2⟩
        · rintro ⟨s, hs, p1, p2⟩
          obtain ⟨i, hi, rfl⟩ := List.mem_map.1 hs
          refine ⟨⟨rw1 i, List.mem_map.2 ⟨i, hi, rfl⟩, keep_rw (by have := List.mem_range.1 hi; omega), p1, p2, hy.1, by show y < 0 + 1; omega⟩, ?_⟩
          simp
      · rw [if_neg hy]
        refine can_unique c1 (b := 0) trivial fun x => ?_
        rw [c2]
        constructor
        · rintro ⟨⟨r, hr, hk, p1, p2, p3, p4⟩, _⟩
          obtain ⟨i, hi, rfl⟩ := List.mem_map.1 hr
          exact absurd ⟨p3, by have : y < 0 + 1 := p4; omega⟩ hy
        · intro h; exact absurd h (inS_nil x)
  unfold formF
  rw [hb]
  unfold flatB rcts rwL
  simp [Function.comp_def, sp1, rw1]
  intro i _
  omega
theorem lis_rw (n : Nat) (hn : n ≤ 1024) : lisE (rwL n) = 0 := by
  unfold lisE
  rw [if_neg (by simp [rwL]; omega), if_pos]
  rw [List.all_eq_true]
  intro r hr
  obtain ⟨i, hi, rfl⟩ := List.mem_map.1 hr
  have := List.mem_range.1 hi
  rw [may_iff]
  unfold rw1
  dsimp only
  omega
theorem many_rw : lisE (rwL 1025) = 4 := by
  unfold lisE
  rw [if_pos (by simp [rwL])]
theorem rw_succ (n : Nat) : rwL (n + 1) = rwL n ++ [rw1 n] := by unfold rwL; rw [List.range_succ, List.map_append]; rfl
theorem tw_form (n : Nat) (h : 0 < n) : formF false (twL n) [] = [⟨0, 0, 1, 1⟩] := by
  have e : formF false (twL n) [] = formF false [⟨0, 0, 1, 1⟩] [] := by
    refine form_same fun x y => keepP_congr ?_ Iff.rfl
    unfold cov
    constructor
    · rintro ⟨r, hr, q⟩
      obtain rfl := (List.mem_replicate.1 hr).2
      exact ⟨_, by simp, q⟩
    · rintro ⟨r, hr, q⟩
      rw [List.mem_singleton] at hr
      subst hr
      exact ⟨_, List.mem_replicate.2 ⟨by omega, rfl⟩, q⟩
  rw [e]
  exact (sameB_iff _ _).1 (by decide +kernel)
theorem tw_area : lisE (twL 1024) = 0 ∧ areA (twL 1024) = 1 ∧ lisE (twL 1025) = 4 ∧ areA (twL 1025) = 0 := by
  have h1 : lisE (twL 1024) = 0 := by
    unfold lisE
    rw [if_neg (by unfold twL; rw [List.length_replicate]; omega), if_pos]
    rw [List.all_eq_true]
    intro r hr
    obtain rfl := (List.mem_replicate.1 hr).2
    decide
  have h2 : lisE (twL 1025) = 4 := by
    unfold lisE
    rw [if_pos (by unfold twL; rw [List.length_replicate]; omega)]
  refine ⟨h1, ?_, h2, ?_⟩
  · unfold areA
    rw [if_pos h1, tw_form 1024 (by omega)]
    decide
  · unfold areA
    rw [if_neg (by rw [h2]; decide)]
def wide2 : List Rc := [⟨-16384, -16384, 32768, 32768⟩, ⟨-16384, -16384, 32768, 32768⟩]
theorem wd_area : areA wide2 = 1073741824 ∧ lisE wide2 = 0 := by decide +kernel
theorem wd_bad : areA [⟨-16384, -16384, 32769, 32768⟩] = 0 ∧ lisE [⟨-16384, -16384, 32769, 32768⟩] = 5 := by decide +kernel
theorem mv_one : (movA [⟨0, 0, 1, 1⟩] 16383 (-16384)).1 = [⟨16383, -16384, 1, 1⟩] ∧ (movA [⟨0, 0, 1, 1⟩] 16383 (-16384)).2 = 0 := ⟨(sameB_iff _ _).1 (by decide +kernel), by decide +kernel⟩
theorem mv_two : (movA [⟨0, 0, 1, 1⟩] 16384 0).1 = [] ∧ (movA [⟨0, 0, 1, 1⟩] 16384 0).2 = 5 := ⟨(sameB_iff _ _).1 (by decide +kernel), by decide +kernel⟩
theorem mv_three : (movA [] 0 65537).1 = [] ∧ (movA [] 0 65537).2 = 2 := ⟨(sameB_iff _ _).1 (by decide +kernel), by decide +kernel⟩
theorem mv_four : (movA [] 0 (-65536)).1 = [] ∧ (movA [] 0 (-65536)).2 = 0 := ⟨(sameB_iff _ _).1 (by decide +kernel), by decide +kernel⟩
theorem sm_two : samR [⟨0, 0, 2, 1⟩] [⟨0, 0, 3, 1⟩] = false ∧ twoE [⟨0, 0, 2, 1⟩] [⟨0, 0, 3, 1⟩] = 0 := by decide +kernel

theorem make_rects (w : World) : ∃ arr : Array Value, arr.size = 4100 ∧ (Instr.makeSlice 23 (.int .i64 1025) (.int .i64 1025)).run Try.prog w = .ok (.slice (some ⟨w.heap.size, 0, none⟩) 1025 1025) (w.alloc (.cells arr 35)) := by
  obtain ⟨i0, hi, hz0, hz1, hz2⟩ := info_parts info_rect
  have h := run_make (P := Try.prog) w 23 35 i0 (.agg #[.int .i64 0, .int .i64 0, .int .i64 0, .int .i64 0]) Try.underlying23 hi hz0 .i64 .i64 1025 1025 (by omega) (Int.le_refl _) (by rw [hz2]; decide) (by decide)
  rw [hz1] at h
  exact ⟨_, size_madeCells _ _, h⟩
/-- The first k rectangles of a block. -/
def OkA (f : Nat → Rc) (k : Nat) (arr : Array Value) : Prop := arr.size = 4100 ∧ ∀ i, i < k → arr[i * 4]? = some (.int .i64 (f i).x) ∧ arr[i * 4 + 1]? = some (.int .i64 (f i).y) ∧ arr[i * 4 + 2]? = some (.int .i64 (f i).w) ∧ arr[i * 4 + 3]? = some (.int .i64 (f i).h)
theorem okA_step {f : Nat → Rc} {k : Nat} {arr : Array Value} (h : OkA f k arr) (hk : k < 1025) : OkA f (k + 1) ((((arr.setIfInBounds (k * 4) (.int .i64 (f k).x)).setIfInBounds (k * 4 + 1) (.int .i64 (f k).y)).setIfInBounds (k * 4 + 2) (.int .i64 (f k).w)).setIfInBounds (k * 4 + 3) (.int .i64 (f k).h)) := by
  obtain ⟨h1, h2⟩ := h
  refine ⟨by simpa using h1, fun i hi => ?_⟩
  by_cases e : i = k
  · subst e
    simp only [Array.getElem?_setIfInBounds, Array.size_setIfInBounds, h1]
    refine ⟨?_, ?_, ?_, ?_⟩
    · rw [if_neg (by omega), if_neg (by omega), if_neg (by omega), if_pos trivial, if_pos (by omega)]
    · rw [if_neg (by omega), if_neg (by omega), if_pos trivial, if_pos (by omega)]
    · rw [if_neg (by omega), if_pos trivial, if_pos (by omega)]
    · rw [if_pos trivial, if_pos (by omega)]
  · obtain ⟨a, b, c, d⟩ := h2 i (by omega)
    simp only [Array.getElem?_setIfInBounds, Array.size_setIfInBounds, h1]
    refine ⟨?_, ?_, ?_, ?_⟩
    · rw [if_neg (by omega), if_neg (by omega), if_neg (by omega), if_neg (by omega)]; exact a
    · rw [if_neg (by omega), if_neg (by omega), if_neg (by omega), if_neg (by omega)]; exact b
    · rw [if_neg (by omega), if_neg (by omega), if_neg (by omega), if_neg (by omega)]; exact c
    · rw [if_neg (by omega), if_neg (by omega), if_neg (by omega), if_neg (by omega)]; exact d
/-- A part of such a block is a list. -/
theorem okA_list {f : Nat → Rc} {arr : Array Value} {w : World} {g : Nat} (h : OkA f 1025 arr) (hb : Bk w g arr 35) (o n c : Nat) (hn : o + n ≤ 1025) (hc : n ≤ c) (l : List Rc) (hl : l.length = n) (hf : ∀ i (hi : i < l.length), l[i] = f (o + i)) : LsR w (.slice (some ⟨g, o * 4, none⟩) n c) l := by
  refine ⟨_, c, by rw [hl], by rw [hl]; exact hc, fun _ => ⟨g, o * 4, rfl, hb.lt, fun i hi => ?_⟩⟩
  obtain ⟨a, b, c, d⟩ := h.2 (o + i) (by omega)
  rw [hf i hi]
  refine ⟨?_, ?_, ?_, ?_⟩
  · rw [hb.cell, ← a]; congr 1; omega
  · rw [hb.cell, ← b]; congr 1; omega
  · rw [hb.cell, ← c]; congr 1; omega
  · rw [hb.cell, ← d]; congr 1; omega

end Go.Proofs.Ytagkbpceiedikaa
