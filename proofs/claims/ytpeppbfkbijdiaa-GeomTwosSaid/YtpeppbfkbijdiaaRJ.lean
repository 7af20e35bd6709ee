/-
  Contracts of the document's answer: what two have together; the least one that has both; whether one lies in another, over another.
-/
import Derived.Test.YtpeppbfkbijdiaaI
import Derived.Test.YtpeppbfkbijdiaaW4
namespace Go.Proofs.Ytpeppbfkbijdiaa
open Go.RowKit
attribute [local go_sem] ite_max ite_min

set_option maxHeartbeats 2000000 in
theorem rmeet_any (ax ay aw ah bx by' bw bh : Int) (w : World) :
    Calls Try.prog 34 #[.agg #[.int .i64 ax, .int .i64 ay, .int .i64 aw, .int .i64 ah], .agg #[.int .i64 bx, .int .i64 by', .int .i64 bw, .int .i64 bh]] w fun e w' => e = .returned (.agg #[.int .i64 (meetR ax ay aw ah bx by' bw bh).x, .int .i64 (meetR ax ay aw ah bx by' bw bh).y, .int .i64 (meetR ax ay aw ah bx by' bw bh).w, .int .i64 (meetR ax ay aw ah bx by' bw bh).h]) ∧ Below w.heap.size w w' := by
  have cs : emptyB ax ay aw ah = true ∨ (emptyB ax ay aw ah = false ∧ emptyB bx by' bw bh = true) ∨ (emptyB ax ay aw ah = false ∧ emptyB bx by' bw bh = false) := by
    cases emptyB ax ay aw ah <;> cases emptyB bx by' bw bh <;> simp
  rcases cs with h1 | ⟨h1, h2⟩ | ⟨h1, h2⟩
  · rw [show meetR ax ay aw ah bx by' bw bh = zr by simp [meetR, h1]]
    go_enter Try.func34, Try.ntmps34
    go_wp2_with fail
    obtain ⟨A, B, C, L⟩ := boxes_rrr w ax ay aw ah bx by' bw bh 29 29 29
    refine (rempty_any _ _ _ _ _).mono ?_
    rintro e w1 ⟨rfl, hb⟩
    have F := (fr2 w _ _ _ _).below hb
    replace A := A.below hb
    replace B := B.below hb
    replace C := C.below hb
    replace L := L.trans (hb.mono L.size)
    clear hb
    replace F := F.2
    obtain ⟨d0, d1, d2, d3⟩ := id A
    obtain ⟨c0, c1, c2, c3⟩ := id C
    go_wp2
    exact bodyPost_ret (v := .agg #[.int .i64 0, .int .i64 0, .int .i64 0, .int .i64 0]) (by simp [results, Try.results34, go_sem, c0, c1, c2, c3]) rfl ⟨rfl, set4_below L (by omega) _ _ _ _⟩
  · rw [show meetR ax ay aw ah bx by' bw bh = zr by simp [meetR, h2]]
    go_enter Try.func34, Try.ntmps34
    go_wp2_with fail
    obtain ⟨A, B, C, L⟩ := boxes_rrr w ax ay aw ah bx by' bw bh 29 29 29
    refine (rempty_any _ _ _ _ _).mono ?_
    rintro e w1 ⟨rfl, hb⟩
    have F := (fr2 w _ _ _ _).below hb
    replace A := A.below hb
    replace B := B.below hb
    replace C := C.below hb
    replace L := L.trans (hb.mono L.size)
    clear hb
    obtain ⟨e0, e1, e2, e3⟩ := id B
    go_wp2_with fail
    clear e0 e1 e2 e3
    refine (rempty_any _ _ _ _ _).mono ?_
    rintro e w2 ⟨rfl, hb⟩
    replace F := F.below hb
    replace A := A.below hb
    replace C := C.below hb
    replace L := L.trans (hb.mono L.size)
    clear hb
    replace F := F.2
    obtain ⟨d0, d1, d2, d3⟩ := id A
    obtain ⟨c0, c1, c2, c3⟩ := id C
    go_wp2
    exact bodyPost_ret (v := .agg #[.int .i64 0, .int .i64 0, .int .i64 0, .int .i64 0]) (by simp [results, Try.results34, go_sem, c0, c1, c2, c3]) rfl ⟨rfl, set4_below L (by omega) _ _ _ _⟩
  · rw [show meetR ax ay aw ah bx by' bw bh = btw (max ax bx) (max ay by') (min (ax + aw) (bx + bw)) (min (ay + ah) (by' + bh)) by simp [meetR, h1, h2]]
    obtain ⟨a1, a2, a3, a4, a5, a6, a7, a8, a9, a10⟩ := bounds_of h1
    obtain ⟨b1, b2, b3, b4, b5, b6, b7, b8, b9, b10⟩ := bounds_of h2
    go_enter Try.func34, Try.ntmps34
    go_wp2_with fail
    obtain ⟨A, B, C, L⟩ := boxes_rrr w ax ay aw ah bx by' bw bh 29 29 29
    refine (rempty_any _ _ _ _ _).mono ?_
    rintro e w1 ⟨rfl, hb⟩
    have F := (fr2 w _ _ _ _).below hb
    replace A := A.below hb
    replace B := B.below hb
    replace C := C.below hb
    replace L := L.trans (hb.mono L.size)
    clear hb
    obtain ⟨d0, d1, d2, d3⟩ := id A
    obtain ⟨e0, e1, e2, e3⟩ := id B
    go_wp2_with fail
    clear d0 d1 d2 d3 e0 e1 e2 e3
    refine (rempty_any _ _ _ _ _).mono ?_
    rintro e w2 ⟨rfl, hb⟩
    replace F := F.below hb
    replace A := A.below hb
    replace B := B.below hb
    replace C := C.below hb
    replace L := L.trans (hb.mono L.size)
    clear hb
    go_wp2_with fail
    have hE : Hid (∀ w, Calls Try.prog 48 #[.int .i64 (max ax bx), .int .i64 (max ay by'), .int .i64 (min (ax + aw) (bx + bw)), .int .i64 (min (ay + ah) (by' + bh))] w fun e w' => e = .returned (.agg #[.int .i64 (btw (max ax bx) (max ay by') (min (ax + aw) (bx + bw)) (min (ay + ah) (by' + bh))).x, .int .i64 (btw (max ax bx) (max ay by') (min (ax + aw) (bx + bw)) (min (ay + ah) (by' + bh))).y, .int .i64 (btw (max ax bx) (max ay by') (min (ax + aw) (bx + bw)) (min (ay + ah) (by' + bh))).w, .int .i64 (btw (max ax bx) (max ay by') (min (ax + aw) (bx + bw)) (min (ay + ah) (by' + bh))).h]) ∧ Below w.heap.size w w') := fun w => from_any _ _ _ _ _ (by omega) (by omega) (by omega) (by omega) (by omega) (by omega) (by omega) (by omega)
    have HL : Hid (At4 w2 w.heap.size ax ay aw ah ∧ At4 w2 (w.heap.size + 1) bx by' bw bh ∧ At4 w2 (w.heap.size + 1 + 1) 0 0 0 0 ∧ Fr w2 (w.heap.size + 1 + 1) ∧ Below w.heap.size w w2) := ⟨A, B, C, F, L⟩
    clear A B C F L h1 h2
    refine wp_region_lit 25 0 1 (fun _ => .cells #[] 0) [] (by kernel_rfl) (by kernel_rfl) rfl (fun k hk => absurd hk (Nat.not_lt_zero _)) rfl (fun i h1 h2 => absurd h2 (by omega)) ?_
    apply Exists.intro
    refine ⟨fun bs ne => ?_, ?_⟩
    · obtain ⟨A, B, _⟩ := HL.out
      have d0 := fun t : Gb w2 bs => (A.below t.below).1
      have d1 := fun t : Gb w2 bs => (A.below t.below).2.1
      have d2 := fun t : Gb w2 bs => (A.below t.below).2.2.1
      have d3 := fun t : Gb w2 bs => (A.below t.below).2.2.2
      have e0 := fun t : Gb w2 bs => (B.below t.below).1
      have e1 := fun t : Gb w2 bs => (B.below t.below).2.1
      have e2 := fun t : Gb w2 bs => (B.below t.below).2.2.1
      have e3 := fun t : Gb w2 bs => (B.below t.below).2.2.2
      clear A B
      simp only [List.take_succ_cons, List.take_zero]
      repeat (go_big_quiet_step (first
        | (go_at_call 50; exact gb_call (rright_any _ _ _ _ _ (by omega) (by omega) (by omega) (by omega)))
        | (go_at_call 51; exact gb_call (rbelow_any _ _ _ _ _ (by omega) (by omega) (by omega) (by omega)))
        | (go_at_call 48; exact gb_call (hE.out _))))
      exact wpQuiet_nil rfl
    · intro bl wr hb _ _
      simp only [layL]
      obtain ⟨A, B, C, F, L⟩ := HL.out
      replace C := C.below hb
      replace F := (F.below hb).2
      replace L := L.trans (hb.mono L.size)
      clear A B hb hE HL
      obtain ⟨c0, c1, c2, c3⟩ := id C
      refine wpAny_one 25 (by kernel_rfl) rfl ?_
      intro K hK
      go_simp
      refine hK _ _ ?_
      clear hK K
      refine wpAny_done (by kernel_rfl) ?_ _
      go_wp2
      exact bodyPost_ret (v := .agg #[.int .i64 _, .int .i64 _, .int .i64 _, .int .i64 _]) (by simp [results, Try.results34, go_sem, c0, c1, c2, c3]) rfl ⟨rfl, set4_below L (by omega) _ _ _ _⟩

set_option maxHeartbeats 400000 in
theorem rplain_any (x y n m : Int) (w : World) :
    Calls Try.prog 52 #[.agg #[.int .i64 x, .int .i64 y, .int .i64 n, .int .i64 m]] w fun e w' => e = .returned (.agg #[.int .i64 (if emptyB x y n m = true then zr else ⟨x, y, n, m⟩ : Rc).x, .int .i64 (if emptyB x y n m = true then zr else ⟨x, y, n, m⟩ : Rc).y, .int .i64 (if emptyB x y n m = true then zr else ⟨x, y, n, m⟩ : Rc).w, .int .i64 (if emptyB x y n m = true then zr else ⟨x, y, n, m⟩ : Rc).h]) ∧ Below w.heap.size w w' := by
  cases h1 : emptyB x y n m
  · rw [if_neg (by simp)]
    go_enter Try.func52, Try.ntmps52
    go_wp2_with fail
    refine (rempty_any _ _ _ _ _).mono ?_
    rintro e w1 ⟨rfl, hb⟩
    have F := ((fr1 w _ _ _).below hb).2
    obtain ⟨d0, d1, d2, d3⟩ := (At4.new' (w.alloc _) (w.heap.size + 1) 0 0 0 0 29 (by simp)).below hb
    obtain ⟨e0, e1, e2, e3⟩ := ((At4.new w x y n m 29).alloc _).below hb
    have L := (((Below.refl w.heap.size w).alloc (Nat.le_refl _) _).alloc (by simp) _).trans (hb.mono (by simp; omega))
    clear hb
    go_wp2
    exact bodyPost_ret (v := .agg #[.int .i64 x, .int .i64 y, .int .i64 n, .int .i64 m]) (by simp [results, Try.results52, go_sem, d0, d1, d2, d3]) rfl ⟨rfl, set4_below L (by omega) _ _ _ _⟩
  · rw [if_pos rfl]
    go_enter Try.func52, Try.ntmps52
    go_wp2_with fail
    refine (rempty_any _ _ _ _ _).mono ?_
    rintro e w1 ⟨rfl, hb⟩
    have F := ((fr1 w _ _ _).below hb).2
    obtain ⟨d0, d1, d2, d3⟩ := (At4.new' (w.alloc _) (w.heap.size + 1) 0 0 0 0 29 (by simp)).below hb
    have L := (((Below.refl w.heap.size w).alloc (Nat.le_refl _) _).alloc (by simp) _).trans (hb.mono (by simp; omega))
    clear hb
    go_wp2
    exact bodyPost_ret (v := .agg #[.int .i64 0, .int .i64 0, .int .i64 0, .int .i64 0]) (by simp [results, Try.results52, go_sem, d0, d1, d2, d3]) rfl ⟨rfl, set4_below L (by omega) _ _ _ _⟩

set_option maxHeartbeats 2000000 in
theorem rjoin_any (ax ay aw ah bx by' bw bh : Int) (w : World) :
    Calls Try.prog 27 #[.agg #[.int .i64 ax, .int .i64 ay, .int .i64 aw, .int .i64 ah], .agg #[.int .i64 bx, .int .i64 by', .int .i64 bw, .int .i64 bh]] w fun e w' => e = .returned (.agg #[.int .i64 (joinR ax ay aw ah bx by' bw bh).x, .int .i64 (joinR ax ay aw ah bx by' bw bh).y, .int .i64 (joinR ax ay aw ah bx by' bw bh).w, .int .i64 (joinR ax ay aw ah bx by' bw bh).h]) ∧ Below w.heap.size w w' := by
  have cs : emptyB ax ay aw ah = true ∨ (emptyB ax ay aw ah = false ∧ emptyB bx by' bw bh = true) ∨ (emptyB ax ay aw ah = false ∧ emptyB bx by' bw bh = false) := by
    cases emptyB ax ay aw ah <;> cases emptyB bx by' bw bh <;> simp
  rcases cs with h1 | ⟨h1, h2⟩ | ⟨h1, h2⟩
  · have hP : Hid (∀ w, Calls Try.prog 52 #[.agg #[.int .i64 bx, .int .i64 by', .int .i64 bw, .int .i64 bh]] w fun e w' => e = .returned (.agg #[.int .i64 (joinR ax ay aw ah bx by' bw bh).x, .int .i64 (joinR ax ay aw ah bx by' bw bh).y, .int .i64 (joinR ax ay aw ah bx by' bw bh).w, .int .i64 (joinR ax ay aw ah bx by' bw bh).h]) ∧ Below w.heap.size w w') := fun w => by
      rw [show joinR ax ay aw ah bx by' bw bh = (if emptyB bx by' bw bh = true then zr else ⟨bx, by', bw, bh⟩ : Rc) by simp [joinR, h1]]
      exact rplain_any _ _ _ _ _
    generalize joinR ax ay aw ah bx by' bw bh = o at *
    go_enter Try.func27, Try.ntmps27
    go_wp2_with fail
    obtain ⟨A, B, C, L⟩ := boxes_rrr w ax ay aw ah bx by' bw bh 29 29 29
    refine (rempty_any _ _ _ _ _).mono ?_
    rintro e w1 ⟨rfl, hb⟩
    have F := (fr2 w _ _ _ _).below hb
    replace A := A.below hb
    replace B := B.below hb
    replace C := C.below hb
    replace L := L.trans (hb.mono L.size)
    clear hb
    obtain ⟨e0, e1, e2, e3⟩ := id B
    go_wp2_with fail
    clear e0 e1 e2 e3
    refine (hP.out _).mono ?_
    rintro e w2 ⟨rfl, hb⟩
    replace F := F.below hb
    replace A := A.below hb
    replace C := C.below hb
    replace L := L.trans (hb.mono L.size)
    clear hb
    replace F := F.2
    obtain ⟨d0, d1, d2, d3⟩ := id A
    obtain ⟨c0, c1, c2, c3⟩ := id C
    go_wp2
    exact bodyPost_ret (v := .agg #[.int .i64 _, .int .i64 _, .int .i64 _, .int .i64 _]) (by simp [results, Try.results27, go_sem, c0, c1, c2, c3]) rfl ⟨rfl, set4_below L (by omega) _ _ _ _⟩
  · rw [show joinR ax ay aw ah bx by' bw bh = ⟨ax, ay, aw, ah⟩ by simp [joinR, h1, h2]]
    go_enter Try.func27, Try.ntmps27
    go_wp2_with fail
    obtain ⟨A, B, C, L⟩ := boxes_rrr w ax ay aw ah bx by' bw bh 29 29 29
    refine (rempty_any _ _ _ _ _).mono ?_
    rintro e w1 ⟨rfl, hb⟩
    have F := (fr2 w _ _ _ _).below hb
    replace A := A.below hb
    replace B := B.below hb
    replace C := C.below hb
    replace L := L.trans (hb.mono L.size)
    clear hb
    obtain ⟨e0, e1, e2, e3⟩ := id B
    go_wp2_with fail
    clear e0 e1 e2 e3
    refine (rempty_any _ _ _ _ _).mono ?_
    rintro e w2 ⟨rfl, hb⟩
    replace F := F.below hb
    replace A := A.below hb
    replace C := C.below hb
    replace L := L.trans (hb.mono L.size)
    clear hb
    replace F := F.2
    obtain ⟨d0, d1, d2, d3⟩ := id A
    obtain ⟨c0, c1, c2, c3⟩ := id C
    go_wp2
    exact bodyPost_ret (v := .agg #[.int .i64 ax, .int .i64 ay, .int .i64 aw, .int .i64 ah]) (by simp [results, Try.results27, go_sem, c0, c1, c2, c3]) rfl ⟨rfl, set4_below L (by omega) _ _ _ _⟩
  · rw [show joinR ax ay aw ah bx by' bw bh = btw (min ax bx) (min ay by') (max (ax + aw) (bx + bw)) (max (ay + ah) (by' + bh)) by simp [joinR, h1, h2]]
    obtain ⟨a1, a2, a3, a4, a5, a6, a7, a8, a9, a10⟩ := bounds_of h1
    obtain ⟨b1, b2, b3, b4, b5, b6, b7, b8, b9, b10⟩ := bounds_of h2
    go_enter Try.func27, Try.ntmps27
    go_wp2_with fail
    obtain ⟨A, B, C, L⟩ := boxes_rrr w ax ay aw ah bx by' bw bh 29 29 29
    refine (rempty_any _ _ _ _ _).mono ?_
    rintro e w1 ⟨rfl, hb⟩
    have F := (fr2 w _ _ _ _).below hb
    replace A := A.below hb
    replace B := B.below hb
    replace C := C.below hb
    replace L := L.trans (hb.mono L.size)
    clear hb
    obtain ⟨d0, d1, d2, d3⟩ := id A
    obtain ⟨e0, e1, e2, e3⟩ := id B
    go_wp2_with fail
    clear d0 d1 d2 d3 e0 e1 e2 e3
    refine (rempty_any _ _ _ _ _).mono ?_
    rintro e w2 ⟨rfl, hb⟩
    replace F := F.below hb
    replace A := A.below hb
    replace B := B.below hb
    replace C := C.below hb
    replace L := L.trans (hb.mono L.size)
    clear hb
    go_wp2_with fail
    have hE : Hid (∀ w, Calls Try.prog 48 #[.int .i64 (min ax bx), .int .i64 (min ay by'), .int .i64 (max (ax + aw) (bx + bw)), .int .i64 (max (ay + ah) (by' + bh))] w fun e w' => e = .returned (.agg #[.int .i64 (btw (min ax bx) (min ay by') (max (ax + aw) (bx + bw)) (max (ay + ah) (by' + bh))).x, .int .i64 (btw (min ax bx) (min ay by') (max (ax + aw) (bx + bw)) (max (ay + ah) (by' + bh))).y, .int .i64 (btw (min ax bx) (min ay by') (max (ax + aw) (bx + bw)) (max (ay + ah) (by' + bh))).w, .int .i64 (btw (min ax bx) (min ay by') (max (ax + aw) (bx + bw)) (max (ay + ah) (by' + bh))).h]) ∧ Below w.heap.size w w') := fun w => from_any _ _ _ _ _ (by omega) (by omega) (by omega) (by omega) (by omega) (by omega) (by omega) (by omega)
    have HL : Hid (At4 w2 w.heap.size ax ay aw ah ∧ At4 w2 (w.heap.size + 1) bx by' bw bh ∧ At4 w2 (w.heap.size + 1 + 1) 0 0 0 0 ∧ Fr w2 (w.heap.size + 1 + 1) ∧ Below w.heap.size w w2) := ⟨A, B, C, F, L⟩
    clear A B C F L h1 h2
    refine wp_region_lit 25 0 1 (fun _ => .cells #[] 0) [] (by kernel_rfl) (by kernel_rfl) rfl (fun k hk => absurd hk (Nat.not_lt_zero _)) rfl (fun i h1 h2 => absurd h2 (by omega)) ?_
    apply Exists.intro
    refine ⟨fun bs ne => ?_, ?_⟩
    · obtain ⟨A, B, _⟩ := HL.out
      have d0 := fun t : Gb w2 bs => (A.below t.below).1
      have d1 := fun t : Gb w2 bs => (A.below t.below).2.1
      have d2 := fun t : Gb w2 bs => (A.below t.below).2.2.1
      have d3 := fun t : Gb w2 bs => (A.below t.below).2.2.2
      have e0 := fun t : Gb w2 bs => (B.below t.below).1
      have e1 := fun t : Gb w2 bs => (B.below t.below).2.1
      have e2 := fun t : Gb w2 bs => (B.below t.below).2.2.1
      have e3 := fun t : Gb w2 bs => (B.below t.below).2.2.2
      clear A B
      simp only [List.take_succ_cons, List.take_zero]
      repeat (go_big_quiet_step (first
        | (go_at_call 50; exact gb_call (rright_any _ _ _ _ _ (by omega) (by omega) (by omega) (by omega)))
        | (go_at_call 51; exact gb_call (rbelow_any _ _ _ _ _ (by omega) (by omega) (by omega) (by omega)))
        | (go_at_call 48; exact gb_call (hE.out _))))
      exact wpQuiet_nil rfl
    · intro bl wr hb _ _
      simp only [layL]
      obtain ⟨A, B, C, F, L⟩ := HL.out
      replace C := C.below hb
      replace F := (F.below hb).2
      replace L := L.trans (hb.mono L.size)
      clear A B hb hE HL
      obtain ⟨c0, c1, c2, c3⟩ := id C
      refine wpAny_one 25 (by kernel_rfl) rfl ?_
      intro K hK
      go_simp
      refine hK _ _ ?_
      clear hK K
      refine wpAny_done (by kernel_rfl) ?_ _
      go_wp2
      exact bodyPost_ret (v := .agg #[.int .i64 _, .int .i64 _, .int .i64 _, .int .i64 _]) (by simp [results, Try.results27, go_sem, c0, c1, c2, c3]) rfl ⟨rfl, set4_below L (by omega) _ _ _ _⟩

set_option maxHeartbeats 1000000 in
theorem rin_any (ax ay aw ah bx by' bw bh : Int) (w : World) :
    Calls Try.prog 31 #[.agg #[.int .i64 ax, .int .i64 ay, .int .i64 aw, .int .i64 ah], .agg #[.int .i64 bx, .int .i64 by', .int .i64 bw, .int .i64 bh]] w fun e w' => e = .returned (.bool (inB ax ay aw ah bx by' bw bh)) ∧ Below w.heap.size w w' := by
  cases h1 : emptyB ax ay aw ah
  · have hE : Hid (∀ w, Calls Try.prog 23 #[.agg #[.int .i64 ax, .int .i64 ay, .int .i64 aw, .int .i64 ah]] w fun e w' => e = .returned (.bool false) ∧ Below w.heap.size w w') := fun w => by
      have := rempty_any ax ay aw ah w
      rwa [h1] at this
    go_enter Try.func31, Try.ntmps31
    go_wp2_with fail
    obtain ⟨A, B, L⟩ := boxes_rr w ax ay aw ah bx by' bw bh 29 29
    have ne := gw_ne L
    have d0 := fun t => (gw4 A t).1
    have d1 := fun t => (gw4 A t).2.1
    have d2 := fun t => (gw4 A t).2.2.1
    have d3 := fun t => (gw4 A t).2.2.2
    have e0 := fun t => (gw4 B t).1
    have e1 := fun t => (gw4 B t).2.1
    have e2 := fun t => (gw4 B t).2.2.1
    have e3 := fun t => (gw4 B t).2.2.2
    have hq := eql_rect
    refine wp_region_gw (by kernel_rfl) (by kernel_rfl) ?_
    repeat (go_big_quiet_step (first
      | (go_at_call 23; exact gw_call (hE.out _))
      | (go_at_call 34; exact gw_call (rmeet_any _ _ _ _ _ _ _ _ _))))
    refine wpQuiet_nil ?_
    rintro _ ⟨t, rfl⟩
    go_wp2
    go_ret
    refine ⟨ret_bool ?_, L.trans (t.below.mono L.size)⟩
    unfold inB eqB
    simp [h1]
  · have hE : Hid (∀ w, Calls Try.prog 23 #[.agg #[.int .i64 ax, .int .i64 ay, .int .i64 aw, .int .i64 ah]] w fun e w' => e = .returned (.bool true) ∧ Below w.heap.size w w') := fun w => by
      have := rempty_any ax ay aw ah w
      rwa [h1] at this
    go_enter Try.func31, Try.ntmps31
    go_wp2_with fail
    obtain ⟨A, B, L⟩ := boxes_rr w ax ay aw ah bx by' bw bh 29 29
    have ne := gw_ne L
    have d0 := fun t => (gw4 A t).1
    have d1 := fun t => (gw4 A t).2.1
    have d2 := fun t => (gw4 A t).2.2.1
    have d3 := fun t => (gw4 A t).2.2.2
    have e0 := fun t => (gw4 B t).1
    have e1 := fun t => (gw4 B t).2.1
    have e2 := fun t => (gw4 B t).2.2.1
    have e3 := fun t => (gw4 B t).2.2.2
    have hq := eql_rect
    refine wp_region_gw (by kernel_rfl) (by kernel_rfl) ?_
    repeat (go_big_quiet_step (first
      | (go_at_call 23; exact gw_call (hE.out _))
      | (go_at_call 34; exact gw_call (rmeet_any _ _ _ _ _ _ _ _ _))))
    refine wpQuiet_nil ?_
    rintro _ ⟨t, rfl⟩
    go_wp2
    go_ret
    refine ⟨ret_bool ?_, L.trans (t.below.mono L.size)⟩
    unfold inB eqB
    simp [h1]

set_option maxHeartbeats 1000000 in
theorem rover_any (ax ay aw ah bx by' bw bh : Int) (w : World) :
    Calls Try.prog 32 #[.agg #[.int .i64 ax, .int .i64 ay, .int .i64 aw, .int .i64 ah], .agg #[.int .i64 bx, .int .i64 by', .int .i64 bw, .int .i64 bh]] w fun e w' => e = .returned (.bool (overB ax ay aw ah bx by' bw bh)) ∧ Below w.heap.size w w' := by
  go_enter Try.func32, Try.ntmps32
  go_wp2_with fail
  obtain ⟨A, B, L⟩ := boxes_rr w ax ay aw ah bx by' bw bh 29 29
  refine (rmeet_any _ _ _ _ _ _ _ _ _).mono ?_
  rintro e w1 ⟨rfl, hb⟩
  replace L := L.trans (hb.mono L.size)
  clear A B hb
  go_wp2
  all_goals
    go_ret
    refine ⟨ret_bool ?_, L⟩
    unfold overB eqB
    simp_all

end Go.Proofs.Ytpeppbfkbijdiaa
