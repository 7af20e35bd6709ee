/-
  Contracts of the document's answer for layer 3: controls, marks, wide ones, how wide a rune is.
-/
import Derived.Test.YtlooemhaoikidaaDoorF1
namespace Go.Proofs.YtlooemhaoikidaaDoor
open Go.RowKit Go.Shelf

def inAny (xs : List (Int × Int)) (r : Int) : Bool := xs.any fun x => decide (x.1 ≤ r) && decide (r ≤ x.2)
def Asc : Int → List (Int × Int) → Prop
  | _, [] => True
  | m, x :: t => m < x.1 ∧ x.1 ≤ x.2 ∧ Asc x.2 t
theorem asc_none (r : Int) : ∀ (xs : List (Int × Int)) (m : Int), Asc m xs → r ≤ m → inAny xs r = false
  | [], _, _, _ => rfl
  | x :: t, m, h, hr => by
    obtain ⟨h1, h2, h3⟩ := h
    have := asc_none r t x.2 h3 (by omega)
    unfold inAny at *
    rw [List.any_cons, this, decide_eq_false (show ¬ x.1 ≤ r by omega)]; rfl
theorem look_any (r : Int) : ∀ (xs : List (Int × Int)) (m : Int), Asc m xs → look xs r = inAny xs r
  | [], _, _ => rfl
  | x :: t, m, h => by
    obtain ⟨h1, h2, h3⟩ := h
    have ih := look_any r t x.2 h3
    unfold look
    split
    · next hr =>
      have hn := asc_none r t x.2 h3 hr
      unfold inAny at *
      rw [List.any_cons, hn, decide_eq_true hr]; simp
    · next hr =>
      unfold inAny at *
      rw [List.any_cons, ih, decide_eq_false hr]; simp
theorem asc_marks : Asc 0 marksL := by simp [Asc, marksL]
theorem asc_wides : Asc 0 widesL := by simp [Asc, widesL]

set_option maxHeartbeats 400000 in
theorem rcontrol_any (r : Int) (w : World) :
    Calls Tryd.prog 37 #[.int .i32 r] w fun e w' => e = .returned (.bool (ctl r)) ∧ w' = w := by
  by_cases c1 : 0 ≤ r
  · by_cases c2 : r < 32
    · go_enter Tryd.func37, Tryd.ntmps37
      go_wp2
      go_ret
      exact ⟨ret_bool (by simp [ctl]; omega), rfl⟩
    · by_cases c3 : 127 ≤ r
      · go_enter Tryd.func37, Tryd.ntmps37
        go_wp2
        go_ret
        exact ⟨ret_bool (by simp [ctl]; omega), rfl⟩
      · go_enter Tryd.func37, Tryd.ntmps37
        go_wp2
        go_ret
        exact ⟨ret_bool (by simp [ctl]; omega), rfl⟩
  · go_enter Tryd.func37, Tryd.ntmps37
    go_wp2
    go_ret
    exact ⟨ret_bool (by simp [ctl]; omega), rfl⟩

set_option maxHeartbeats 1000000 in
theorem among_any (r : Int) (xs : List (Int × Int)) (g c : Nat) (w : World) (hlen : xs.length ≤ 1000)
    (h : ∀ (i : Nat) (hi : i < xs.length), w.cell? ⟨g, 2 * i, none⟩ = some (.int .i32 xs[i].1) ∧ w.cell? ⟨g, 2 * i + 1, none⟩ = some (.int .i32 xs[i].2)) :
    Calls Tryd.prog 56 #[.int .i32 r, .slice (some ⟨g, 0, none⟩) (2 * xs.length) c] w fun e w' => e = .returned (.bool (inAny xs r)) ∧ w' = w := by
  have H1 : Hid (∀ (i : Nat) (hi : i < xs.length), w.cell? ⟨g, 2 * i, none⟩ = some (.int .i32 xs[i].1) ∧ w.cell? ⟨g, 2 * i + 1, none⟩ = some (.int .i32 xs[i].2)) := h
  clear h
  go_enter Tryd.func56, Tryd.ntmps56
  go_wp2
  go_loopw [5] (fun i wr => ∃ k : Nat, k ≤ xs.length ∧ i = .int .i64 (2 * (k : Int)) ∧ inAny xs r = inAny (xs.drop k) r ∧ wr = w) (fun i _ => 2 * xs.length - (intOf i).toNat)
  case atStart => exact ⟨0, Nat.zero_le _, rfl, by simp, rfl⟩
  case round =>
    obtain ⟨k, hk, rfl, hall, rfl⟩ := hrel
    by_cases hlt : k < xs.length
    · obtain ⟨f0, f1⟩ := H1.out k hlt
      have hd : inAny (xs.drop k) r = ((decide (xs[k].1 ≤ r) && decide (r ≤ xs[k].2)) || inAny (xs.drop (k + 1)) r) := by
        rw [List.drop_eq_getElem_cons hlt]; rfl
      have HE : Hid (inAny xs r = inAny (xs.drop k) r ∧ inAny (xs.drop k) r = ((decide (xs[k].1 ≤ r) && decide (r ≤ xs[k].2)) || inAny (xs.drop (k + 1)) r)) := ⟨hall, hd⟩
      clear hall hd
      generalize xs[k] = x at *
      by_cases c1 : x.1 ≤ r
      · by_cases c2 : r ≤ x.2
        · go_wp2
          go_ret
          obtain ⟨e1, e2⟩ := HE.out
          exact ⟨by rw [e1, e2, decide_eq_true c1, decide_eq_true c2]; rfl, rfl⟩
        · go_wp2
          go_roundw
          case rel =>
            obtain ⟨e1, e2⟩ := HE.out
            exact ⟨k + 1, by omega, by go_num, by rw [e1, e2, decide_eq_false (show ¬ r ≤ x.2 by omega)]; simp, by first | rfl | trivial⟩
          case measure => simp [intOf]; omega
      · go_wp2
        go_roundw
        case rel =>
          obtain ⟨e1, e2⟩ := HE.out
          exact ⟨k + 1, by omega, by go_num, by rw [e1, e2, decide_eq_false (show ¬ x.1 ≤ r by omega)]; simp, by first | rfl | trivial⟩
        case measure => simp [intOf]; omega
    · go_wp2
      go_ret
      refine ⟨?_, rfl⟩
      rw [hall, List.drop_eq_nil_of_le (by omega)]
      rfl

set_option maxRecDepth 10000 in
set_option maxHeartbeats 1000000 in
theorem rmark_any (r : Int) (w : World) :
    Calls Tryd.prog 38 #[.int .i32 r] w fun e w' => e = .returned (.bool (mrk r)) ∧ Below w.heap.size w w' := by
  go_enter Tryd.func38, Tryd.ntmps38
  go_wp2_with fail
  refine (among_any r marksL w.heap.size 24 _ (by decide) ?_).mono ?_
  · intro i hi
    match i, hi with
    | 0, _ => exact ⟨(Blk.new w _ _).cell 0, (Blk.new w _ _).cell 1⟩
    | 1, _ => exact ⟨(Blk.new w _ _).cell 2, (Blk.new w _ _).cell 3⟩
    | 2, _ => exact ⟨(Blk.new w _ _).cell 4, (Blk.new w _ _).cell 5⟩
    | 3, _ => exact ⟨(Blk.new w _ _).cell 6, (Blk.new w _ _).cell 7⟩
    | 4, _ => exact ⟨(Blk.new w _ _).cell 8, (Blk.new w _ _).cell 9⟩
    | 5, _ => exact ⟨(Blk.new w _ _).cell 10, (Blk.new w _ _).cell 11⟩
    | 6, _ => exact ⟨(Blk.new w _ _).cell 12, (Blk.new w _ _).cell 13⟩
    | 7, _ => exact ⟨(Blk.new w _ _).cell 14, (Blk.new w _ _).cell 15⟩
    | 8, _ => exact ⟨(Blk.new w _ _).cell 16, (Blk.new w _ _).cell 17⟩
    | 9, _ => exact ⟨(Blk.new w _ _).cell 18, (Blk.new w _ _).cell 19⟩
    | 10, _ => exact ⟨(Blk.new w _ _).cell 20, (Blk.new w _ _).cell 21⟩
    | 11, _ => exact ⟨(Blk.new w _ _).cell 22, (Blk.new w _ _).cell 23⟩
    | i + 12, hi => exact absurd hi (by simp [marksL])
  rintro e w1 ⟨rfl, rfl⟩
  go_wp2
  go_ret
  exact ⟨by rw [mrk, look_any r marksL 0 asc_marks]; rfl, (Below.refl _ w).alloc (Nat.le_refl _) _⟩

set_option maxRecDepth 10000 in
set_option maxHeartbeats 1000000 in
theorem rwide_any (r : Int) (w : World) :
    Calls Tryd.prog 39 #[.int .i32 r] w fun e w' => e = .returned (.bool (wide r)) ∧ Below w.heap.size w w' := by
  go_enter Tryd.func39, Tryd.ntmps39
  go_wp2_with fail
  refine (among_any r widesL w.heap.size 28 _ (by decide) ?_).mono ?_
  · intro i hi
    match i, hi with
    | 0, _ => exact ⟨(Blk.new w _ _).cell 0, (Blk.new w _ _).cell 1⟩
    | 1, _ => exact ⟨(Blk.new w _ _).cell 2, (Blk.new w _ _).cell 3⟩
    | 2, _ => exact ⟨(Blk.new w _ _).cell 4, (Blk.new w _ _).cell 5⟩
    | 3, _ => exact ⟨(Blk.new w _ _).cell 6, (Blk.new w _ _).cell 7⟩
    | 4, _ => exact ⟨(Blk.new w _ _).cell 8, (Blk.new w _ _).cell 9⟩
    | 5, _ => exact ⟨(Blk.new w _ _).cell 10, (Blk.new w _ _).cell 11⟩
    | 6, _ => exact ⟨(Blk.new w _ _).cell 12, (Blk.new w _ _).cell 13⟩
    | 7, _ => exact ⟨(Blk.new w _ _).cell 14, (Blk.new w _ _).cell 15⟩
    | 8, _ => exact ⟨(Blk.new w _ _).cell 16, (Blk.new w _ _).cell 17⟩
    | 9, _ => exact ⟨(Blk.new w _ _).cell 18, (Blk.new w _ _).cell 19⟩
    | 10, _ => exact ⟨(Blk.new w _ _).cell 20, (Blk.new w _ _).cell 21⟩
    | 11, _ => exact ⟨(Blk.new w _ _).cell 22, (Blk.new w _ _).cell 23⟩
    | 12, _ => exact ⟨(Blk.new w _ _).cell 24, (Blk.new w _ _).cell 25⟩
    | 13, _ => exact ⟨(Blk.new w _ _).cell 26, (Blk.new w _ _).cell 27⟩
    | i + 14, hi => exact absurd hi (by simp [widesL])
  rintro e w1 ⟨rfl, rfl⟩
  go_wp2
  go_ret
  exact ⟨by rw [wide, look_any r widesL 0 asc_wides]; rfl, (Below.refl _ w).alloc (Nat.le_refl _) _⟩

theorem width_odd (r : Int) (h : r < 0 ∨ 1114111 < r ∨ (55296 ≤ r ∧ r ≤ 57343)) : width r = 1 := by
  have h1 : ctl r = false := by simp [ctl]; omega
  have h2 : mrk r = false := by rw [mrk, look_any r marksL 0 asc_marks]; simp [inAny, marksL]; omega
  have h3 : wide r = false := by rw [wide, look_any r widesL 0 asc_wides]; simp [inAny, widesL]; omega
  simp [width, h1, h2, h3]

set_option maxRecDepth 10000 in
set_option maxHeartbeats 1000000 in
theorem rwidth_any (r : Int) (w : World) :
    Calls Tryd.prog 13 #[.int .i32 r] w fun e w' => e = .returned (.int .i64 (width r)) ∧ Below w.heap.size w w' := by
  rcases (show r < 0 ∨ 1114111 < r ∨ (55296 ≤ r ∧ r ≤ 57343) ∨ (0 ≤ r ∧ r ≤ 1114111 ∧ (r < 55296 ∨ 57343 < r)) by omega) with h | h | ⟨h, h'⟩ | ⟨h, h', h''⟩
  · have HW : Hid (width r = 1) := width_odd r (.inl h)
    go_enter Tryd.func13, Tryd.ntmps13
    go_wp2
    go_ret
    exact ⟨by rw [HW.out]; rfl, Below.refl _ _⟩
  · have HW : Hid (width r = 1) := width_odd r (.inr (.inl h))
    go_enter Tryd.func13, Tryd.ntmps13
    go_wp2
    go_ret
    exact ⟨by rw [HW.out]; rfl, Below.refl _ _⟩
  · have HW : Hid (width r = 1) := width_odd r (.inr (.inr ⟨h, h'⟩))
    go_enter Tryd.func13, Tryd.ntmps13
    go_wp2
    go_ret
    exact ⟨by rw [HW.out]; rfl, Below.refl _ _⟩
  · rcases h'' with h2 | h2
    all_goals
      go_enter Tryd.func13, Tryd.ntmps13
      go_wp2_with fail
      refine (rcontrol_any _ _).mono ?_
      rintro e w1 ⟨rfl, rfl⟩
      cases k1 : ctl r
      · go_wp2_with fail
        refine (rmark_any _ _).mono ?_
        rintro e w2 ⟨rfl, hb⟩
        cases k2 : mrk r
        · go_wp2_with fail
          refine (rwide_any _ _).mono ?_
          rintro e w3 ⟨rfl, hb'⟩
          have HB : Hid (Below w1.heap.size w1 w3) := hb.trans (hb'.mono hb.size)
          clear hb hb'
          cases k3 : wide r
          · go_wp2
            go_ret
            exact ⟨by simp [width, k1, k2, k3], HB.out⟩
          · go_wp2
            go_ret
            exact ⟨by simp [width, k1, k2, k3], HB.out⟩
        · go_wp2
          go_ret
          exact ⟨by simp [width, k2], hb⟩
      · go_wp2
        go_ret
        exact ⟨by simp [width, k1], Below.refl _ _⟩

end Go.Proofs.YtlooemhaoikidaaDoor
