/-
  The walk of the statement GeomAreas: it answers true; of what was there nothing turns.
-/
import Derived.Test.YtfknfcmabeahhaaAl
import Derived.Test.YtfknfcmabeahhaaPlain6
namespace Go.Proofs.Ytfknfcmabeahhaa
open Go.RowKit

theorem area_nonneg (x y n m : Int) : 0 ≤ areaI x y n m ∧ areaI x y n m ≤ 1073741824 := by
  cases h : emptyB x y n m
  · rw [area_full h]
    obtain ⟨a1, a2, a3, a4, a5, a6, a7, a8, a9, a10⟩ := bounds_of h
    have : n * m ≤ 32768 * 32768 := Int.mul_le_mul a6 a8 (by omega) (by omega)
    have h0 : 0 ≤ n * m := Int.mul_nonneg (by omega) (by omega)
    omega
  · rw [area_empty h]; omega
theorem areaS_nonneg (l : List Rc) : 0 ≤ areaS l := by
  induction l with
  | nil => exact Int.le_refl _
  | cons r l ih =>
    have := (area_nonneg r.x r.y r.w r.h).1
    show 0 ≤ areaI r.x r.y r.w r.h + areaS l
    omega
theorem areaS_append (l k : List Rc) : areaS (l ++ k) = areaS l + areaS k := by
  induction l with
  | nil => show _ = 0 + areaS k; rw [Int.zero_add]; rfl
  | cons r l ih =>
    show areaI r.x r.y r.w r.h + areaS (l ++ k) = areaI r.x r.y r.w r.h + areaS l + areaS k
    rw [ih]; omega
theorem areaS_take_le (l : List Rc) (k : Nat) : areaS (l.take k) ≤ areaS l := by
  have h := areaS_append (l.take k) (l.drop k)
  rw [List.take_append_drop] at h
  have := areaS_nonneg (l.drop k)
  omega
theorem areaS_take_succ (l : List Rc) (k : Nat) (h : k < l.length) : areaS (l.take (k + 1)) = areaS (l.take k) + areaI l[k].x l[k].y l[k].w l[k].h := by
  rw [List.take_succ_eq_append_getElem h, areaS_append]
  show _ + (_ + 0) = _
  omega
/-- The cells of the k-th rectangle of a list. -/
theorem flat_get (l : List Rc) (k : Nat) (h : k < l.length) : (flat l)[k * 4]? = some (.int .i64 l[k].x) ∧ (flat l)[k * 4 + 1]? = some (.int .i64 l[k].y) ∧ (flat l)[k * 4 + 2]? = some (.int .i64 l[k].w) ∧ (flat l)[k * 4 + 3]? = some (.int .i64 l[k].h) := by
  induction l generalizing k with
  | nil => simp at h
  | cons r l ih =>
    cases k with
    | zero => simp [flat, cel]
    | succ k =>
      have e : ∀ j, (flat (r :: l))[(k + 1) * 4 + j]? = (flat l)[k * 4 + j]? := fun j => by
        show (cel r ++ flat l)[(k + 1) * 4 + j]? = _
        rw [List.getElem?_append_right (by simp [cel]; omega)]
        congr 1
        simp [cel]
        omega
      have h' : k < l.length := by simpa using h
      obtain ⟨i0, i1, i2, i3⟩ := ih k h'
      have e0 := e 0
      rw [Nat.add_zero, Nat.add_zero] at e0
      exact ⟨e0.trans i0, (e 1).trans i1, (e 2).trans i2, (e 3).trans i3⟩
/-- A slice that owns a row is a slice of that length. -/
theorem own_form {w : World} {base : Nat} {e : TypeId} {v : Value} {n : Nat} {xs : List Value} (h : w.ownsRow base e 4 v n xs) : ∃ oa cap, v = .slice oa n cap ∧ n ≤ cap ∧ (0 < n → ∃ g, oa = some ⟨g, 0, none⟩ ∧ base ≤ g ∧ g < w.heap.size ∧ ∀ j, j < n * 4 → w.cell? ⟨g, j, none⟩ = xs[j]?) := by
  rcases h.2 with ⟨rfl, rfl⟩ | ⟨g, cap, cur, rfl, hb, hg, hc, _⟩
  · exact ⟨none, 0, rfl, Nat.le_refl _, fun h => absurd h (by omega)⟩
  · exact ⟨_, cap, rfl, hc, fun _ => ⟨g, rfl, hb, (Array.getElem?_eq_some_iff.1 hg).1, fun j hj => h.cellAt j hj⟩⟩

theorem les_len (ax ay aw ah bx by' bw bh : Int) : (lesL ax ay aw ah bx by' bw bh).length ≤ 4 := by
  unfold lesL
  split
  · split
    · simp
    · exact List.length_filter_le keepB (pcs _ _ _ _ _ _ _ _)
  · simp
theorem meetA_bd (ax ay aw ah bx by' bw bh : Int) : -16384 ≤ (meetR ax ay aw ah bx by' bw bh).x ∧ (meetR ax ay aw ah bx by' bw bh).x ≤ 16384 ∧ -16384 ≤ (meetR ax ay aw ah bx by' bw bh).y ∧ (meetR ax ay aw ah bx by' bw bh).y ≤ 16384 := by
  cases h : emptyB ax ay aw ah
  · obtain ⟨m1, m2, m3, m4, _⟩ := meet_bd (bx := bx) (by' := by') (bw := bw) (bh := bh) h
    exact ⟨m1, m2, m3, m4⟩
  · have : meetR ax ay aw ah bx by' bw bh = zr := by simp [meetR, h]
    rw [this]; decide

theorem chk_no {x y n m : Int} (h : mayB x y n m = false) : chk x y n m = 5 := by simp [chk, h]
theorem chk_yes {x y n m : Int} (h : mayB x y n m = true) : chk x y n m = 0 := by simp [chk, h]

set_option maxHeartbeats 2000000 in
theorem areas_err1 (ax ay aw ah bx by' bw bh : Int) (w : World) (hax : I64 ax) (hay : I64 ay) (hbx : I64 bx) (hby : I64 by') (h1 : mayB ax ay aw ah = false) :
    Calls Try.prog 8 #[.agg #[.int .i64 ax, .int .i64 ay, .int .i64 aw, .int .i64 ah], .agg #[.int .i64 bx, .int .i64 by', .int .i64 bw, .int .i64 bh]] w fun e w' => e = .returned (.bool true) ∧ Below w.heap.size w w' := by
  have hE : lesE ax ay aw ah bx by' bw bh = 5 := by simp [lesE, h1]
  have hR : lesL ax ay aw ah bx by' bw bh = [] := by simp [lesL, h1]
  go_enter Try.func8, Try.ntmps8
  go_wp2_with fail
  refine (alive_any _).mono ?_
  rintro e w1 ⟨rfl, hb⟩
  have A := ((At4.new w ax ay aw ah 29).alloc _).below hb
  have B := (At4.new' (w.alloc _) (w.heap.size + 1) bx by' bw bh 29 (by simp)).below hb
  have L := (((Below.refl w.heap.size w).alloc (Nat.le_refl _) _).alloc (by simp) _).trans (hb.mono (by simp; omega))
  clear hb
  obtain ⟨a0, a1, a2, a3⟩ := id A
  obtain ⟨b0, b1, b2, b3⟩ := id B
  go_wp2_with fail
  clear a0 a1 a2 a3 b0 b1 b2 b3
  refine (less_any _ _ _ _ _ _ _ _ _ hax hay hbx hby).mono ?_
  rintro e w2 ⟨v, rfl, hown, hb⟩
  rw [hE]
  replace A := A.below hb
  replace B := B.below hb
  replace L := L.trans (hb.mono L.size)
  clear hb
  rw [hR] at hown
  obtain ⟨oa, cap, rfl, hcap, _⟩ := own_form hown
  have k1 := chk_no h1
  clear hown hE hR
  obtain ⟨a0, a1, a2, a3⟩ := id A
  go_wp2_with fail
  clear a0 a1 a2 a3
  refine (check_any _ _ _ _ _ hax hay).mono ?_
  rintro e w3 ⟨rfl, hb⟩
  replace L := L.trans (hb.mono L.size)
  clear A B hb
  go_wp2
  go_ret
  exact ⟨rfl, L⟩

set_option maxHeartbeats 2000000 in
theorem areas_err2 (ax ay aw ah bx by' bw bh : Int) (w : World) (hax : I64 ax) (hay : I64 ay) (hbx : I64 bx) (hby : I64 by') (h1 : mayB ax ay aw ah = true) (h2 : mayB bx by' bw bh = false) :
    Calls Try.prog 8 #[.agg #[.int .i64 ax, .int .i64 ay, .int .i64 aw, .int .i64 ah], .agg #[.int .i64 bx, .int .i64 by', .int .i64 bw, .int .i64 bh]] w fun e w' => e = .returned (.bool true) ∧ Below w.heap.size w w' := by
  have hE : lesE ax ay aw ah bx by' bw bh = 5 := by simp [lesE, h2]
  have hR : lesL ax ay aw ah bx by' bw bh = [] := by simp [lesL, h2]
  go_enter Try.func8, Try.ntmps8
  go_wp2_with fail
  refine (alive_any _).mono ?_
  rintro e w1 ⟨rfl, hb⟩
  have A := ((At4.new w ax ay aw ah 29).alloc _).below hb
  have B := (At4.new' (w.alloc _) (w.heap.size + 1) bx by' bw bh 29 (by simp)).below hb
  have L := (((Below.refl w.heap.size w).alloc (Nat.le_refl _) _).alloc (by simp) _).trans (hb.mono (by simp; omega))
  clear hb
  obtain ⟨a0, a1, a2, a3⟩ := id A
  obtain ⟨b0, b1, b2, b3⟩ := id B
  go_wp2_with fail
  clear a0 a1 a2 a3 b0 b1 b2 b3
  refine (less_any _ _ _ _ _ _ _ _ _ hax hay hbx hby).mono ?_
  rintro e w2 ⟨v, rfl, hown, hb⟩
  rw [hE]
  replace A := A.below hb
  replace B := B.below hb
  replace L := L.trans (hb.mono L.size)
  clear hb
  rw [hR] at hown
  obtain ⟨oa, cap, rfl, hcap, _⟩ := own_form hown
  have k1 := chk_yes h1
  have k2 := chk_no h2
  clear hown hE hR
  obtain ⟨a0, a1, a2, a3⟩ := id A
  go_wp2_with fail
  clear a0 a1 a2 a3
  refine (check_any _ _ _ _ _ hax hay).mono ?_
  rintro e w3 ⟨rfl, hb⟩
  replace B := B.below hb
  replace L := L.trans (hb.mono L.size)
  clear A hb
  obtain ⟨b0, b1, b2, b3⟩ := id B
  go_wp2_with fail
  clear b0 b1 b2 b3
  refine (check_any _ _ _ _ _ hbx hby).mono ?_
  rintro e w4 ⟨rfl, hb⟩
  replace L := L.trans (hb.mono L.size)
  clear B hb
  go_wp2
  go_ret
  exact ⟨rfl, L⟩

set_option maxHeartbeats 4000000 in
theorem areas_ok (ax ay aw ah bx by' bw bh : Int) (w : World) (hax : I64 ax) (hay : I64 ay) (hbx : I64 bx) (hby : I64 by') (h1 : mayB ax ay aw ah = true) (h2 : mayB bx by' bw bh = true) :
    Calls Try.prog 8 #[.agg #[.int .i64 ax, .int .i64 ay, .int .i64 aw, .int .i64 ah], .agg #[.int .i64 bx, .int .i64 by', .int .i64 bw, .int .i64 bh]] w fun e w' => e = .returned (.bool true) ∧ Below w.heap.size w w' := by
  have hE : lesE ax ay aw ah bx by' bw bh = 0 := by simp [lesE, h1, h2]
  obtain ⟨hP, hS, hI⟩ := less_ok h1 h2
  obtain ⟨j1, j2, j3⟩ := join_ok h1 h2
  have hjb : Hid (mayB (joinR ax ay aw ah bx by' bw bh).x (joinR ax ay aw ah bx by' bw bh).y (joinR ax ay aw ah bx by' bw bh).w (joinR ax ay aw ah bx by' bw bh).h = true) := j3
  have hj1 : Hid (∀ w, Calls Try.prog 14 #[.agg #[.int .i64 ax, .int .i64 ay, .int .i64 aw, .int .i64 ah], .agg #[.int .i64 (joinR ax ay aw ah bx by' bw bh).x, .int .i64 (joinR ax ay aw ah bx by' bw bh).y, .int .i64 (joinR ax ay aw ah bx by' bw bh).w, .int .i64 (joinR ax ay aw ah bx by' bw bh).h]] w fun e w' => e = .returned (.bool true) ∧ Below w.heap.size w w') := fun w => by
    obtain ⟨q1, q2, q3, q4, _⟩ := may_bd j3
    have := in_any ax ay aw ah (joinR ax ay aw ah bx by' bw bh).x (joinR ax ay aw ah bx by' bw bh).y (joinR ax ay aw ah bx by' bw bh).w (joinR ax ay aw ah bx by' bw bh).h w hax hay ⟨by omega, by omega⟩ ⟨by omega, by omega⟩
    rwa [j1] at this
  have hj2 : Hid (∀ w, Calls Try.prog 14 #[.agg #[.int .i64 bx, .int .i64 by', .int .i64 bw, .int .i64 bh], .agg #[.int .i64 (joinR ax ay aw ah bx by' bw bh).x, .int .i64 (joinR ax ay aw ah bx by' bw bh).y, .int .i64 (joinR ax ay aw ah bx by' bw bh).w, .int .i64 (joinR ax ay aw ah bx by' bw bh).h]] w fun e w' => e = .returned (.bool true) ∧ Below w.heap.size w w') := fun w => by
    obtain ⟨q1, q2, q3, q4, _⟩ := may_bd j3
    have := in_any bx by' bw bh (joinR ax ay aw ah bx by' bw bh).x (joinR ax ay aw ah bx by' bw bh).y (joinR ax ay aw ah bx by' bw bh).w (joinR ax ay aw ah bx by' bw bh).h w hbx hby ⟨by omega, by omega⟩ ⟨by omega, by omega⟩
    rwa [j2] at this
  have hj3 : Hid (∀ w, Calls Try.prog 9 #[.agg #[.int .i64 (joinR ax ay aw ah bx by' bw bh).x, .int .i64 (joinR ax ay aw ah bx by' bw bh).y, .int .i64 (joinR ax ay aw ah bx by' bw bh).w, .int .i64 (joinR ax ay aw ah bx by' bw bh).h]] w fun e w' => e = .returned (.int .i64 0) ∧ Below w.heap.size w w') := fun w => by
    obtain ⟨q1, q2, q3, q4, _⟩ := may_bd j3
    have := check_any (joinR ax ay aw ah bx by' bw bh).x (joinR ax ay aw ah bx by' bw bh).y (joinR ax ay aw ah bx by' bw bh).w (joinR ax ay aw ah bx by' bw bh).h w ⟨by omega, by omega⟩ ⟨by omega, by omega⟩
    rwa [chk_yes j3] at this
  have hj4 : Hid (∀ w, Calls Try.prog 16 #[.agg #[.int .i64 ax, .int .i64 ay, .int .i64 aw, .int .i64 ah], .agg #[.int .i64 bx, .int .i64 by', .int .i64 bw, .int .i64 bh]] w fun e w' => e = .returned (.agg #[.int .i64 (joinR ax ay aw ah bx by' bw bh).x, .int .i64 (joinR ax ay aw ah bx by' bw bh).y, .int .i64 (joinR ax ay aw ah bx by' bw bh).w, .int .i64 (joinR ax ay aw ah bx by' bw bh).h]) ∧ Below w.heap.size w w') := fun w => join_any _ _ _ _ _ _ _ _ _ hax hay hbx hby
  have hj5 : Hid (∀ w, Calls Try.prog 14 #[.agg #[.int .i64 ax, .int .i64 ay, .int .i64 aw, .int .i64 ah], .agg #[.int .i64 bx, .int .i64 by', .int .i64 bw, .int .i64 bh]] w fun e w' => e = .returned (.bool (decide ((lesL ax ay aw ah bx by' bw bh).length = 0))) ∧ Below w.heap.size w w') := fun w => by
    have := in_any ax ay aw ah bx by' bw bh w hax hay hbx hby
    rwa [hI] at this
  have hMb := meetA_bd ax ay aw ah bx by' bw bh
  have hm1 : Hid (∀ w, Calls Try.prog 33 #[.agg #[.int .i64 ax, .int .i64 ay, .int .i64 aw, .int .i64 ah], .agg #[.int .i64 bx, .int .i64 by', .int .i64 bw, .int .i64 bh]] w fun e w' => e = .returned (.agg #[.int .i64 (meetR ax ay aw ah bx by' bw bh).x, .int .i64 (meetR ax ay aw ah bx by' bw bh).y, .int .i64 (meetR ax ay aw ah bx by' bw bh).w, .int .i64 (meetR ax ay aw ah bx by' bw bh).h]) ∧ Below w.heap.size w w') := fun w => meet_any _ _ _ _ _ _ _ _ _ hax hay hbx hby
  have hm2 : Hid (∀ w, Calls Try.prog 24 #[.agg #[.int .i64 (meetR ax ay aw ah bx by' bw bh).x, .int .i64 (meetR ax ay aw ah bx by' bw bh).y, .int .i64 (meetR ax ay aw ah bx by' bw bh).w, .int .i64 (meetR ax ay aw ah bx by' bw bh).h]] w fun e w' => e = .returned (.int .i64 (areaI (meetR ax ay aw ah bx by' bw bh).x (meetR ax ay aw ah bx by' bw bh).y (meetR ax ay aw ah bx by' bw bh).w (meetR ax ay aw ah bx by' bw bh).h)) ∧ Below w.heap.size w w') := fun w => area_any _ _ _ _ _ ⟨by omega, by omega⟩ ⟨by omega, by omega⟩
  have hm3 : Hid (∀ w, Calls Try.prog 24 #[.agg #[.int .i64 ax, .int .i64 ay, .int .i64 aw, .int .i64 ah]] w fun e w' => e = .returned (.int .i64 (areaI ax ay aw ah)) ∧ Below w.heap.size w w') := fun w => area_any _ _ _ _ _ hax hay
  have hs1 := (area_nonneg (meetR ax ay aw ah bx by' bw bh).x (meetR ax ay aw ah bx by' bw bh).y (meetR ax ay aw ah bx by' bw bh).w (meetR ax ay aw ah bx by' bw bh).h).1
  have hs2 := (area_nonneg ax ay aw ah).2
  generalize areaI (meetR ax ay aw ah bx by' bw bh).x (meetR ax ay aw ah bx by' bw bh).y (meetR ax ay aw ah bx by' bw bh).w (meetR ax ay aw ah bx by' bw bh).h = nm at *
  generalize meetR ax ay aw ah bx by' bw bh = rm at *
  generalize joinR ax ay aw ah bx by' bw bh = rj at *
  generalize areaI ax ay aw ah = na at *
  clear hI j1 j2 j3 hMb
  go_enter Try.func8, Try.ntmps8
  go_wp2_with fail
  refine (alive_any _).mono ?_
  rintro e w1 ⟨rfl, hb⟩
  have A := ((At4.new w ax ay aw ah 29).alloc _).below hb
  have B := (At4.new' (w.alloc _) (w.heap.size + 1) bx by' bw bh 29 (by simp)).below hb
  have L := (((Below.refl w.heap.size w).alloc (Nat.le_refl _) _).alloc (by simp) _).trans (hb.mono (by simp; omega))
  clear hb
  obtain ⟨a0, a1, a2, a3⟩ := id A
  obtain ⟨b0, b1, b2, b3⟩ := id B
  go_wp2_with fail
  clear a0 a1 a2 a3 b0 b1 b2 b3
  refine (less_any _ _ _ _ _ _ _ _ _ hax hay hbx hby).mono ?_
  rintro e w2 ⟨v, rfl, hown, hb⟩
  rw [hE]
  replace A := A.below hb
  replace B := B.below hb
  replace L := L.trans (hb.mono L.size)
  clear hb
  have hlen := les_len ax ay aw ah bx by' bw bh
  generalize lesL ax ay aw ah bx by' bw bh = rs at *
  obtain ⟨oa, cap, rfl, hcap, hcells⟩ := own_form hown
  clear hown hE
  obtain ⟨a0, a1, a2, a3⟩ := id A
  obtain ⟨b0, b1, b2, b3⟩ := id B
  go_wp2_with fail
  clear a0 a1 a2 a3 b0 b1 b2 b3
  refine (hm1.out _).mono ?_
  rintro e w3 ⟨rfl, hb⟩
  have K := hb
  replace A := A.below hb
  replace B := B.below hb
  replace L := L.trans (hb.mono L.size)
  clear hb
  go_wp2_with fail
  refine (hm2.out _).mono ?_
  rintro e w4 ⟨rfl, hb⟩
  replace K := K.trans (hb.mono K.size)
  replace A := A.below hb
  replace B := B.below hb
  replace L := L.trans (hb.mono L.size)
  clear hb hm1 hm2
  have HB : Hid (At4 w4 w.heap.size ax ay aw ah ∧ At4 w4 (w.heap.size + 1) bx by' bw bh ∧ Below w.heap.size w w4 ∧ Below w2.heap.size w2 w4 ∧ (0 < rs.length → ∃ g, oa = some ⟨g, 0, none⟩ ∧ w1.heap.size ≤ g ∧ g < w2.heap.size ∧ ∀ j, j < rs.length * 4 → w2.cell? ⟨g, j, none⟩ = (flat rs)[j]?) ∧ (∀ r ∈ rs, pieceOK ax ay aw ah bx by' bw bh r)) := ⟨A, B, L, K, hcells, hP⟩
  have HS : Hid (nm + areaS rs = na) := hS
  clear A B L K hcells hP hS
  go_wp2_with fail
  go_loopw [8, 9] (fun n i wr => ∃ k : Nat, k ≤ rs.length ∧ i = .int .i64 k ∧ n = .int .i64 (nm + areaS (rs.take k)) ∧ Below w4.heap.size w4 wr) (fun _ i _ => rs.length - (intOf i).toNat)
  case atStart => exact ⟨0, Nat.zero_le _, rfl, by simp [areaS], Below.refl _ _⟩
  case round =>
    obtain ⟨k, hk, rfl, rfl, hw⟩ := hrel
    obtain ⟨A, B, L, K, hcells, hP⟩ := HB.out
    have t1 := areaS_nonneg (rs.take k)
    have t2 := areaS_take_le rs k
    have t3 := HS.out
    by_cases hlt : k < rs.length
    · obtain ⟨g, rfl, g1, g2, hc⟩ := hcells (by omega)
      obtain ⟨c0, c1, c2, c3⟩ := flat_get rs k hlt
      obtain ⟨p1, p2, p3⟩ := hP rs[k] (List.getElem_mem hlt)
      obtain ⟨z1, z2, z3, z4, _⟩ := bounds_of p1
      have t4 := areaS_take_succ rs k hlt
      have t5 := areaS_take_le rs (k + 1)
      have t6 := areaS_nonneg (rs.take (k + 1))
      have hgc : ∀ (t : Gw wr) (j : Nat), j < rs.length * 4 → t.wd.cell? ⟨g, j, none⟩ = (flat rs)[j]? := fun t j hj => by
        rw [t.below.cell (p := ⟨g, j, none⟩) (by have := hw.size; have := K.size; show g < _; omega), hw.cell (p := ⟨g, j, none⟩) (by have := K.size; show g < _; omega), K.cell (p := ⟨g, j, none⟩) g2]
        exact hc j hj
      have hg0 := fun t : Gw wr => (hgc t (k * 4) (by omega)).trans c0
      have hg1 := fun t : Gw wr => (hgc t (k * 4 + 1) (by omega)).trans c1
      have hg2 := fun t : Gw wr => (hgc t (k * 4 + 2) (by omega)).trans c2
      have hg3 := fun t : Gw wr => (hgc t (k * 4 + 3) (by omega)).trans c3
      have A' := A.below hw
      have B' := B.below hw
      have hEm : Hid (∀ w, Calls Try.prog 12 #[.agg #[.int .i64 rs[k].x, .int .i64 rs[k].y, .int .i64 rs[k].w, .int .i64 rs[k].h]] w fun e w' => e = .returned (.bool false) ∧ Below w.heap.size w w') := fun w => by
        have := empty_any rs[k].x rs[k].y rs[k].w rs[k].h w ⟨by omega, by omega⟩ ⟨by omega, by omega⟩
        rwa [p1] at this
      have hIn : Hid (∀ w, Calls Try.prog 14 #[.agg #[.int .i64 rs[k].x, .int .i64 rs[k].y, .int .i64 rs[k].w, .int .i64 rs[k].h], .agg #[.int .i64 ax, .int .i64 ay, .int .i64 aw, .int .i64 ah]] w fun e w' => e = .returned (.bool true) ∧ Below w.heap.size w w') := fun w => by
        have := in_any rs[k].x rs[k].y rs[k].w rs[k].h ax ay aw ah w ⟨by omega, by omega⟩ ⟨by omega, by omega⟩ hax hay
        rwa [p2] at this
      have hOv : Hid (∀ w, Calls Try.prog 15 #[.agg #[.int .i64 rs[k].x, .int .i64 rs[k].y, .int .i64 rs[k].w, .int .i64 rs[k].h], .agg #[.int .i64 bx, .int .i64 by', .int .i64 bw, .int .i64 bh]] w fun e w' => e = .returned (.bool false) ∧ Below w.heap.size w w') := fun w => by
        have := over_any rs[k].x rs[k].y rs[k].w rs[k].h bx by' bw bh w ⟨by omega, by omega⟩ ⟨by omega, by omega⟩ hbx hby
        rwa [p3] at this
      have hAr : Hid (∀ w, Calls Try.prog 24 #[.agg #[.int .i64 rs[k].x, .int .i64 rs[k].y, .int .i64 rs[k].w, .int .i64 rs[k].h]] w fun e w' => e = .returned (.int .i64 (areaI rs[k].x rs[k].y rs[k].w rs[k].h)) ∧ Below w.heap.size w w') := fun w => area_any _ _ _ _ _ ⟨by omega, by omega⟩ ⟨by omega, by omega⟩
      have HT : Hid (areaS (rs.take (k + 1)) = areaS (rs.take k) + areaI rs[k].x rs[k].y rs[k].w rs[k].h) := t4
      have r0 := (area_nonneg rs[k].x rs[k].y rs[k].w rs[k].h).1
      have r1 : nm + areaS (rs.take k) + areaI rs[k].x rs[k].y rs[k].w rs[k].h ≤ 1073741824 := by omega
      have r2 : 0 ≤ nm + areaS (rs.take k) := by omega
      generalize rs[k] = r at *
      generalize areaI r.x r.y r.w r.h = nr at *
      clear t1 t2 t3 t4 t5 t6 p1 p2 p3 z1 z2 z3 z4 hgc hc c0 c1 c2 c3 hP
      have a0 := fun t : Gw wr => (gw4 A' t).1
      have a1 := fun t : Gw wr => (gw4 A' t).2.1
      have a2 := fun t : Gw wr => (gw4 A' t).2.2.1
      have a3 := fun t : Gw wr => (gw4 A' t).2.2.2
      have b0 := fun t : Gw wr => (gw4 B' t).1
      have b1 := fun t : Gw wr => (gw4 B' t).2.1
      have b2 := fun t : Gw wr => (gw4 B' t).2.2.1
      have b3 := fun t : Gw wr => (gw4 B' t).2.2.2
      have ne := gw_ne hw
      clear A B A' B' L K
      go_wp2_with fail
      refine wp_region_gw (by kernel_rfl) (by kernel_rfl) ?_
      repeat (go_big_quiet_step (first
        | (go_at_call 12; exact gw_call (hEm.out _))
        | (go_at_call 14; exact gw_call (hIn.out _))
        | (go_at_call 15; exact gw_call (hOv.out _))))
      refine wpQuiet_nil ?_
      rintro _ ⟨t, rfl⟩
      go_wp2_with fail
      refine (hAr.out _).mono ?_
      rintro e w5 ⟨rfl, hb⟩
      have hx : Below w4.heap.size w4 w5 := (hw.trans (t.below.mono hw.size)).trans (hb.mono (hw.trans (t.below.mono hw.size)).size)
      clear hb a0 a1 a2 a3 b0 b1 b2 b3 hg0 hg1 hg2 hg3 ne hEm hIn hOv hAr
      go_wp2
      go_roundw
      case rel => exact ⟨k + 1, by omega, by go_num, by rw [HT.out]; go_num, hx⟩
      case measure => simp [intOf]; omega
    · have hkk : k = rs.length := by omega
      subst hkk
      rw [List.take_length] at *
      have HN : Hid (nm + areaS rs = na) := HS.out
      replace A := A.below hw
      replace B := B.below hw
      replace L := L.trans (hw.mono L.size)
      clear K hcells hP t1 t2 t3 hw
      obtain ⟨a0, a1, a2, a3⟩ := id A
      obtain ⟨b0, b1, b2, b3⟩ := id B
      go_wp2_with fail
      clear a0 a1 a2 a3 b0 b1 b2 b3
      refine (hj4.out _).mono ?_
      rintro e w5 ⟨rfl, hb⟩
      replace A := A.below hb
      replace B := B.below hb
      replace L := L.trans (hb.mono L.size)
      clear hb
      have hn : ((nm + areaS rs) == na) = true := by simp [HN.out]
      clear HN HS
      cases hz : decide (rs.length = 0)
      · have hj6 : Hid (∀ w, Calls Try.prog 14 #[.agg #[.int .i64 ax, .int .i64 ay, .int .i64 aw, .int .i64 ah], .agg #[.int .i64 bx, .int .i64 by', .int .i64 bw, .int .i64 bh]] w fun e w' => e = .returned (.bool false) ∧ Below w.heap.size w w') := fun w => by
          have := hj5.out w
          rwa [hz] at this
        have hl : ((rs.length : Int) == 0) = false := by simp at hz ⊢; omega
        clear hz hj5
        obtain ⟨a0, a1, a2, a3⟩ := id A
        obtain ⟨b0, b1, b2, b3⟩ := id B
        have la := A.lt
        have lb := B.lt
        go_wp2_with fail
        clear a0 a1 a2 a3 b0 b1 b2 b3 la lb
        refine (hm3.out _).mono ?_
        rintro e w6 ⟨rfl, hb⟩
        replace A := (A.alloc _).below hb
        replace B := (B.alloc _).below hb
        have J := (At4.new w5 rj.x rj.y rj.w rj.h 29).below hb
        replace L := (L.alloc L.size _).trans (hb.mono (by have := L.size; simp; omega))
        clear hb
        obtain ⟨a0, a1, a2, a3⟩ := id A
        obtain ⟨b0, b1, b2, b3⟩ := id B
        have la := A.lt
        have lb := B.lt
        obtain ⟨j0, j1, j2, j3⟩ := id J
        have lj := J.lt
        go_wp2_with fail
        clear a0 a1 a2 a3 b0 b1 b2 b3 la lb
        clear j0 j1 j2 j3 lj
        refine (hj1.out _).mono ?_
        rintro e w7 ⟨rfl, hb⟩
        replace A := A.below hb
        replace B := B.below hb
        replace J := J.below hb
        replace L := L.trans (hb.mono L.size)
        clear hb
        obtain ⟨a0, a1, a2, a3⟩ := id A
        obtain ⟨b0, b1, b2, b3⟩ := id B
        have la := A.lt
        have lb := B.lt
        obtain ⟨j0, j1, j2, j3⟩ := id J
        have lj := J.lt
        go_wp2_with fail
        clear a0 a1 a2 a3 b0 b1 b2 b3 la lb
        clear j0 j1 j2 j3 lj
        refine (hj2.out _).mono ?_
        rintro e w8 ⟨rfl, hb⟩
        replace A := A.below hb
        replace B := B.below hb
        replace J := J.below hb
        replace L := L.trans (hb.mono L.size)
        clear hb
        obtain ⟨a0, a1, a2, a3⟩ := id A
        obtain ⟨b0, b1, b2, b3⟩ := id B
        have la := A.lt
        have lb := B.lt
        obtain ⟨j0, j1, j2, j3⟩ := id J
        have lj := J.lt
        go_wp2_with fail
        clear a0 a1 a2 a3 b0 b1 b2 b3 la lb
        clear j0 j1 j2 j3 lj
        refine (hj3.out _).mono ?_
        rintro e w9 ⟨rfl, hb⟩
        replace A := A.below hb
        replace B := B.below hb
        replace J := J.below hb
        replace L := L.trans (hb.mono L.size)
        clear hb
        obtain ⟨a0, a1, a2, a3⟩ := id A
        obtain ⟨b0, b1, b2, b3⟩ := id B
        have la := A.lt
        have lb := B.lt
        obtain ⟨j0, j1, j2, j3⟩ := id J
        have lj := J.lt
        go_wp2_with fail
        clear a0 a1 a2 a3 b0 b1 b2 b3 la lb
        clear j0 j1 j2 j3 lj
        refine (hj6.out _).mono ?_
        rintro e w10 ⟨rfl, hb⟩
        replace A := A.below hb
        replace B := B.below hb
        replace J := J.below hb
        replace L := L.trans (hb.mono L.size)
        clear hb
        go_wp2
        go_ret
        exact ⟨rfl, L⟩
      · have hj6 : Hid (∀ w, Calls Try.prog 14 #[.agg #[.int .i64 ax, .int .i64 ay, .int .i64 aw, .int .i64 ah], .agg #[.int .i64 bx, .int .i64 by', .int .i64 bw, .int .i64 bh]] w fun e w' => e = .returned (.bool true) ∧ Below w.heap.size w w') := fun w => by
          have := hj5.out w
          rwa [hz] at this
        have hl : ((rs.length : Int) == 0) = true := by simp at hz ⊢; omega
        clear hz hj5
        obtain ⟨a0, a1, a2, a3⟩ := id A
        obtain ⟨b0, b1, b2, b3⟩ := id B
        have la := A.lt
        have lb := B.lt
        go_wp2_with fail
        clear a0 a1 a2 a3 b0 b1 b2 b3 la lb
        refine (hm3.out _).mono ?_
        rintro e w6 ⟨rfl, hb⟩
        replace A := (A.alloc _).below hb
        replace B := (B.alloc _).below hb
        have J := (At4.new w5 rj.x rj.y rj.w rj.h 29).below hb
        replace L := (L.alloc L.size _).trans (hb.mono (by have := L.size; simp; omega))
        clear hb
        obtain ⟨a0, a1, a2, a3⟩ := id A
        obtain ⟨b0, b1, b2, b3⟩ := id B
        have la := A.lt
        have lb := B.lt
        obtain ⟨j0, j1, j2, j3⟩ := id J
        have lj := J.lt
        go_wp2_with fail
        clear a0 a1 a2 a3 b0 b1 b2 b3 la lb
        clear j0 j1 j2 j3 lj
        refine (hj1.out _).mono ?_
        rintro e w7 ⟨rfl, hb⟩
        replace A := A.below hb
        replace B := B.below hb
        replace J := J.below hb
        replace L := L.trans (hb.mono L.size)
        clear hb
        obtain ⟨a0, a1, a2, a3⟩ := id A
        obtain ⟨b0, b1, b2, b3⟩ := id B
        have la := A.lt
        have lb := B.lt
        obtain ⟨j0, j1, j2, j3⟩ := id J
        have lj := J.lt
        go_wp2_with fail
        clear a0 a1 a2 a3 b0 b1 b2 b3 la lb
        clear j0 j1 j2 j3 lj
        refine (hj2.out _).mono ?_
        rintro e w8 ⟨rfl, hb⟩
        replace A := A.below hb
        replace B := B.below hb
        replace J := J.below hb
        replace L := L.trans (hb.mono L.size)
        clear hb
        obtain ⟨a0, a1, a2, a3⟩ := id A
        obtain ⟨b0, b1, b2, b3⟩ := id B
        have la := A.lt
        have lb := B.lt
        obtain ⟨j0, j1, j2, j3⟩ := id J
        have lj := J.lt
        go_wp2_with fail
        clear a0 a1 a2 a3 b0 b1 b2 b3 la lb
        clear j0 j1 j2 j3 lj
        refine (hj3.out _).mono ?_
        rintro e w9 ⟨rfl, hb⟩
        replace A := A.below hb
        replace B := B.below hb
        replace J := J.below hb
        replace L := L.trans (hb.mono L.size)
        clear hb
        obtain ⟨a0, a1, a2, a3⟩ := id A
        obtain ⟨b0, b1, b2, b3⟩ := id B
        have la := A.lt
        have lb := B.lt
        obtain ⟨j0, j1, j2, j3⟩ := id J
        have lj := J.lt
        go_wp2_with fail
        clear a0 a1 a2 a3 b0 b1 b2 b3 la lb
        clear j0 j1 j2 j3 lj
        refine (hj6.out _).mono ?_
        rintro e w10 ⟨rfl, hb⟩
        replace A := A.below hb
        replace B := B.below hb
        replace J := J.below hb
        replace L := L.trans (hb.mono L.size)
        clear hb
        go_wp2
        go_ret
        exact ⟨rfl, L⟩

end Go.Proofs.Ytfknfcmabeahhaa
