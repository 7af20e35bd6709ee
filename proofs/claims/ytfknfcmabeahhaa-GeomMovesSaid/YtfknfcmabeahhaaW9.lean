/-
  Contracts of the document's answer: halves, beginnings, a rectangle inset.
-/
import Derived.Test.YtfknfcmabeahhaaW8
import Derived.Test.YtfknfcmabeahhaaW5
namespace Go.Proofs.Ytfknfcmabeahhaa
open Go.RowKit

theorem At4.set4 {w : World} {b g : Nat} {x y n m : Int} (h : At4 w b x y n m) (v0 v1 v2 v3 : Int) (hp : g ≠ b) : At4 ((((w.setCell ⟨g, 0, none⟩ (.int .i64 v0)).setCell ⟨g, 1, none⟩ (.int .i64 v1)).setCell ⟨g, 2, none⟩ (.int .i64 v2)).setCell ⟨g, 3, none⟩ (.int .i64 v3)) b x y n m :=
  (((h.set _ hp).set _ hp).set _ hp).set _ hp
theorem At2.set4 {w : World} {b g : Nat} {x y : Int} (h : At2 w b x y) (v0 v1 v2 v3 : Int) (hp : g ≠ b) : At2 ((((w.setCell ⟨g, 0, none⟩ (.int .i64 v0)).setCell ⟨g, 1, none⟩ (.int .i64 v1)).setCell ⟨g, 2, none⟩ (.int .i64 v2)).setCell ⟨g, 3, none⟩ (.int .i64 v3)) b x y :=
  (((h.set _ hp).set _ hp).set _ hp).set _ hp
theorem Fr.set4 {w : World} {b : Nat} (h : Fr w b) (g : Nat) (v0 v1 v2 v3 : Int) : Fr ((((w.setCell ⟨g, 0, none⟩ (.int .i64 v0)).setCell ⟨g, 1, none⟩ (.int .i64 v1)).setCell ⟨g, 2, none⟩ (.int .i64 v2)).setCell ⟨g, 3, none⟩ (.int .i64 v3)) b :=
  (((h.set _ _).set _ _).set _ _).set _ _

set_option maxHeartbeats 400000 in
theorem rhalf_any (s : Int) (w : World) (h1 : -1000000 ≤ s) (h2 : s ≤ 1000000) :
    Calls Try.prog 58 #[.int .i64 s] w fun e w' => e = .returned (.int .i64 (s / 2)) ∧ w' = w := by
  by_cases c : s < 0
  · go_enter Try.func58, Try.ntmps58
    go_wp2
    go_ret
    exact ⟨ret_int (by omega), rfl⟩
  · go_enter Try.func58, Try.ntmps58
    go_wp2
    go_ret
    exact ⟨ret_int (by omega), rfl⟩

set_option maxHeartbeats 400000 in
theorem rbegin_any (p r len u : Int) (w : World) (hu0 : 0 ≤ u) (hu2 : u ≤ 2) (h1 : -100000 ≤ p) (h2 : p ≤ 100000) (h3 : -100000 ≤ r) (h4 : r ≤ 100000) (h5 : -100000 ≤ len) (h6 : len ≤ 100000) :
    Calls Try.prog 56 #[.int .i64 p, .int .i64 r, .int .i64 len, .int .u8 u] w fun e w' => e = .returned (.int .i64 (begI p r len u)) ∧ w' = w := by
  have cs : u = 0 ∨ u = 1 ∨ u = 2 := by omega
  rcases cs with rfl | rfl | rfl
  all_goals
    go_enter Try.func56, Try.ntmps56
    go_wp2_with (go_at_call 58; refine (rhalf_any _ _ (by omega) (by omega)).mono ?_; rintro e w' ⟨rfl, rfl⟩)
    go_ret
    exact ⟨ret_int (by simp [begI] <;> omega), rfl⟩

set_option maxHeartbeats 2000000 in
theorem rinset_any (x y n m k : Int) (w : World) :
    Calls Try.prog 35 #[.agg #[.int .i64 x, .int .i64 y, .int .i64 n, .int .i64 m], .int .i64 k] w fun e w' => e = .returned (.tuple #[.agg #[.int .i64 (insR x y n m k).x, .int .i64 (insR x y n m k).y, .int .i64 (insR x y n m k).w, .int .i64 (insR x y n m k).h], .int .i64 (insE x y n m k)]) ∧ Below w.heap.size w w' := by
  have cs : mayB x y n m = false ∨ (mayB x y n m = true ∧ witB k (-16384) 16384 = false) ∨ (mayB x y n m = true ∧ witB k (-16384) 16384 = true ∧ emptyB x y n m = true) ∨ (mayB x y n m = true ∧ witB k (-16384) 16384 = true ∧ emptyB x y n m = false) := by
    cases mayB x y n m <;> cases witB k (-16384) 16384 <;> cases emptyB x y n m <;> simp
  rcases cs with h1 | ⟨h1, h2⟩ | ⟨h1, h2, h3⟩ | ⟨h1, h2, h3⟩
  · rw [show insR x y n m k = zr by simp [insR, h1], show insE x y n m k = 5 by simp [insE, h1]]
    go_enter Try.func35, Try.ntmps35
    go_wp2_with fail
    refine (rmay_any _ _ _ _ _).mono ?_
    rintro e w1 ⟨rfl, hb⟩
    have F := (fr1 w _ _ _).below hb
    have C := (At4.new' (w.alloc _) (w.heap.size + 1) 0 0 0 0 29 (by simp)).below hb
    have A := ((At4.new w x y n m 29).alloc _).below hb
    have L := (((Below.refl w.heap.size w).alloc (Nat.le_refl _) _).alloc (by simp) _).trans (hb.mono (by simp; omega))
    clear hb
    replace F := F.2
    obtain ⟨d0, d1, d2, d3⟩ := id C
    go_wp2_with fail
    exact bodyPost_ret (v := .tuple #[.agg #[.int .i64 0, .int .i64 0, .int .i64 0, .int .i64 0], .int .i64 5]) (by simp [results, Try.results35, go_sem, d0, d1, d2, d3]) rfl ⟨rfl, set4_below L (by omega) _ _ _ _⟩
  · rw [show insR x y n m k = zr by simp [insR, h2], show insE x y n m k = 2 by simp [insE, h1, h2]]
    go_enter Try.func35, Try.ntmps35
    go_wp2_with fail
    refine (rmay_any _ _ _ _ _).mono ?_
    rintro e w1 ⟨rfl, hb⟩
    have F := (fr1 w _ _ _).below hb
    have C := (At4.new' (w.alloc _) (w.heap.size + 1) 0 0 0 0 29 (by simp)).below hb
    have A := ((At4.new w x y n m 29).alloc _).below hb
    have L := (((Below.refl w.heap.size w).alloc (Nat.le_refl _) _).alloc (by simp) _).trans (hb.mono (by simp; omega))
    clear hb
    replace F := F.2
    obtain ⟨d0, d1, d2, d3⟩ := id C
    go_wp2_with (go_at_call 47; refine (rwithin_any _ _).mono ?_; rintro e w' ⟨rfl, rfl⟩)
    exact bodyPost_ret (v := .tuple #[.agg #[.int .i64 0, .int .i64 0, .int .i64 0, .int .i64 0], .int .i64 2]) (by simp [results, Try.results35, go_sem, d0, d1, d2, d3]) rfl ⟨rfl, set4_below L (by omega) _ _ _ _⟩
  · rw [show insR x y n m k = zr by simp [insR, h3], show insE x y n m k = 0 by simp [insE, h1, h2, h3]]
    go_enter Try.func35, Try.ntmps35
    go_wp2_with fail
    refine (rmay_any _ _ _ _ _).mono ?_
    rintro e w1 ⟨rfl, hb⟩
    have F := (fr1 w _ _ _).below hb
    have C := (At4.new' (w.alloc _) (w.heap.size + 1) 0 0 0 0 29 (by simp)).below hb
    have A := ((At4.new w x y n m 29).alloc _).below hb
    have L := (((Below.refl w.heap.size w).alloc (Nat.le_refl _) _).alloc (by simp) _).trans (hb.mono (by simp; omega))
    clear hb
    obtain ⟨e0, e1, e2, e3⟩ := id A
    go_wp2_with (go_at_call 47; refine (rwithin_any _ _).mono ?_; rintro e w' ⟨rfl, rfl⟩)
    clear e0 e1 e2 e3
    refine (rempty_any _ _ _ _ _).mono ?_
    rintro e w2 ⟨rfl, hb⟩
    replace F := F.below hb
    replace A := A.below hb
    replace C := C.below hb
    replace L := L.trans (hb.mono L.size)
    clear hb
    replace F := F.2
    obtain ⟨d0, d1, d2, d3⟩ := id C
    go_wp2_with fail
    exact bodyPost_ret (v := .tuple #[.agg #[.int .i64 0, .int .i64 0, .int .i64 0, .int .i64 0], .int .i64 0]) (by simp [results, Try.results35, go_sem, d0, d1, d2, d3]) rfl ⟨rfl, set4_below L (by omega) _ _ _ _⟩
  · rw [show insR x y n m k = szR (btw (x + k) (y + k) (x + n - k) (y + m - k)) by simp [insR, h1, h2, h3], show insE x y n m k = szE (btw (x + k) (y + k) (x + n - k) (y + m - k)) by simp [insE, h1, h2, h3]]
    obtain ⟨a1, a2, a3, a4, a5, a6, a7, a8, a9, a10⟩ := bounds_of h3
    obtain ⟨b1, b2⟩ := wit_iff.1 h2
    have hE : Hid (∀ w, Calls Try.prog 48 #[.int .i64 (x + k), .int .i64 (y + k), .int .i64 (x + n - k), .int .i64 (y + m - k)] w fun e w' => e = .returned (.agg #[.int .i64 (btw (x + k) (y + k) (x + n - k) (y + m - k)).x, .int .i64 (btw (x + k) (y + k) (x + n - k) (y + m - k)).y, .int .i64 (btw (x + k) (y + k) (x + n - k) (y + m - k)).w, .int .i64 (btw (x + k) (y + k) (x + n - k) (y + m - k)).h]) ∧ Below w.heap.size w w') := fun w => from_any _ _ _ _ _ (by omega) (by omega) (by omega) (by omega) (by omega) (by omega) (by omega) (by omega)
    generalize btw (x + k) (y + k) (x + n - k) (y + m - k) = o at *
    obtain ⟨ox, oy, ow, oh⟩ := o
    cases hm : mayB ox oy ow oh
    · rw [show szR ⟨ox, oy, ow, oh⟩ = zr by simp [szR, hm], show szE ⟨ox, oy, ow, oh⟩ = 9 by simp [szE, hm]]
      go_enter Try.func35, Try.ntmps35
      go_wp2_with fail
      refine (rmay_any _ _ _ _ _).mono ?_
      rintro e w1 ⟨rfl, hb⟩
      have F := (fr1 w _ _ _).below hb
      have C := (At4.new' (w.alloc _) (w.heap.size + 1) 0 0 0 0 29 (by simp)).below hb
      have A := ((At4.new w x y n m 29).alloc _).below hb
      have L := (((Below.refl w.heap.size w).alloc (Nat.le_refl _) _).alloc (by simp) _).trans (hb.mono (by simp; omega))
      clear hb
      obtain ⟨e0, e1, e2, e3⟩ := id A
      go_wp2_with (go_at_call 47; refine (rwithin_any _ _).mono ?_; rintro e w' ⟨rfl, rfl⟩)
      clear e0 e1 e2 e3
      refine (rempty_any _ _ _ _ _).mono ?_
      rintro e w2 ⟨rfl, hb⟩
      replace F := F.below hb
      replace A := A.below hb
      replace C := C.below hb
      replace L := L.trans (hb.mono L.size)
      clear hb
      go_wp2_with fail
      have HL : Hid (At4 w2 w.heap.size x y n m ∧ At4 w2 (w.heap.size + 1) 0 0 0 0 ∧ Fr w2 (w.heap.size + 1) ∧ Below w.heap.size w w2) := ⟨A, C, F, L⟩
      clear A C F L h1 h2 h3
      refine wp_region_lit 19 1 1 (fun _ => .cells #[.int .i64 0, .int .i64 0, .int .i64 0, .int .i64 0] 29) [6] (by kernel_rfl) (by kernel_rfl) rfl ?_ rfl ?_ ?_
      · intro k hk
        have hc : k = 0 := by omega
        subst hc; rfl
      · intro i h1 h2
        have hc : i = 19 := by omega
        subst hc
        exact ⟨_, rfl, rfl, fun _ _ => rfl⟩
      apply Exists.intro
      refine ⟨fun bs ne => ?_, ?_⟩
      · obtain ⟨A, _⟩ := HL.out
        have d0 := fun t : Gb w2 bs => (A.below t.below).1
        have d1 := fun t : Gb w2 bs => (A.below t.below).2.1
        have d2 := fun t : Gb w2 bs => (A.below t.below).2.2.1
        have d3 := fun t : Gb w2 bs => (A.below t.below).2.2.2
        clear A
        simp only [List.take_succ_cons, List.take_zero]
        repeat (go_big_quiet_step (first
          | (go_at_call 50; exact gb_call (rright_any _ _ _ _ _ (by omega) (by omega) (by omega) (by omega)))
          | (go_at_call 51; exact gb_call (rbelow_any _ _ _ _ _ (by omega) (by omega) (by omega) (by omega)))
          | (go_at_call 48; exact gb_call (hE.out _))))
        exact wpQuiet_nil rfl
      · intro bl wr hb hlo hinj
        obtain ⟨q1, q2⟩ := hlo 19 (by omega) (by omega)
        obtain ⟨v1, v2, v3⟩ := heap_cells q2
        simp only [layL, ptr]
        generalize bl 19 = g at *
        clear hlo hinj q2
        obtain ⟨A, C, F, L⟩ := HL.out
        have lc0 := C.lt
        replace C := C.below hb
        replace F := F.below hb
        replace L := L.trans (hb.mono L.size)
        have z : At4 wr g 0 0 0 0 := ⟨by rw [v1]; rfl, by rw [v1]; rfl, by rw [v1]; rfl, by rw [v1]; rfl⟩
        refine wpAny_one 20 (by kernel_rfl) rfl ?_
        intro K hK
        go_simp
        refine hK _ _ ?_
        clear hK K
        refine wpAny_done (by kernel_rfl) ?_ _
        replace C := C.set4 ox oy ow oh (show g ≠ _ by omega)
        replace F := F.set4 g ox oy ow oh
        replace L := set4_below L (show _ ≤ g by omega) (.int .i64 ox) (.int .i64 oy) (.int .i64 ow) (.int .i64 oh)
        replace z := z.put ox oy ow oh
        generalize ((((wr.setCell ⟨g, 0, none⟩ (.int .i64 ox)).setCell ⟨g, 1, none⟩ (.int .i64 oy)).setCell ⟨g, 2, none⟩ (.int .i64 ow)).setCell ⟨g, 3, none⟩ (.int .i64 oh)) = wz at *
        clear v1 v2 v3 A HL hb hE
        obtain ⟨z0, z1, z2, z3⟩ := id z
        go_wp2_with fail
        clear z0 z1 z2 z3
        refine (rmay_any _ _ _ _ _).mono ?_
        rintro e w5 ⟨rfl, hb⟩
        replace F := (F.below hb).2
        replace C := C.below hb
        replace z := z.below hb
        replace L := L.trans (hb.mono L.size)
        clear hb
        obtain ⟨d0, d1, d2, d3⟩ := id C
        obtain ⟨z0, z1, z2, z3⟩ := id z
        go_wp2
        exact bodyPost_ret (v := .tuple #[.agg #[.int .i64 0, .int .i64 0, .int .i64 0, .int .i64 0], .int .i64 9]) (by simp [results, Try.results35, go_sem, d0, d1, d2, d3]) rfl ⟨rfl, set4_below L (by omega) _ _ _ _⟩
    · rw [show szR ⟨ox, oy, ow, oh⟩ = ⟨ox, oy, ow, oh⟩ by simp [szR, hm], show szE ⟨ox, oy, ow, oh⟩ = 0 by simp [szE, hm]]
      go_enter Try.func35, Try.ntmps35
      go_wp2_with fail
      refine (rmay_any _ _ _ _ _).mono ?_
      rintro e w1 ⟨rfl, hb⟩
      have F := (fr1 w _ _ _).below hb
      have C := (At4.new' (w.alloc _) (w.heap.size + 1) 0 0 0 0 29 (by simp)).below hb
      have A := ((At4.new w x y n m 29).alloc _).below hb
      have L := (((Below.refl w.heap.size w).alloc (Nat.le_refl _) _).alloc (by simp) _).trans (hb.mono (by simp; omega))
      clear hb
      obtain ⟨e0, e1, e2, e3⟩ := id A
      go_wp2_with (go_at_call 47; refine (rwithin_any _ _).mono ?_; rintro e w' ⟨rfl, rfl⟩)
      clear e0 e1 e2 e3
      refine (rempty_any _ _ _ _ _).mono ?_
      rintro e w2 ⟨rfl, hb⟩
      replace F := F.below hb
      replace A := A.below hb
      replace C := C.below hb
      replace L := L.trans (hb.mono L.size)
      clear hb
      go_wp2_with fail
      have HL : Hid (At4 w2 w.heap.size x y n m ∧ At4 w2 (w.heap.size + 1) 0 0 0 0 ∧ Fr w2 (w.heap.size + 1) ∧ Below w.heap.size w w2) := ⟨A, C, F, L⟩
      clear A C F L h1 h2 h3
      refine wp_region_lit 19 1 1 (fun _ => .cells #[.int .i64 0, .int .i64 0, .int .i64 0, .int .i64 0] 29) [6] (by kernel_rfl) (by kernel_rfl) rfl ?_ rfl ?_ ?_
      · intro k hk
        have hc : k = 0 := by omega
        subst hc; rfl
      · intro i h1 h2
        have hc : i = 19 := by omega
        subst hc
        exact ⟨_, rfl, rfl, fun _ _ => rfl⟩
      apply Exists.intro
      refine ⟨fun bs ne => ?_, ?_⟩
      · obtain ⟨A, _⟩ := HL.out
        have d0 := fun t : Gb w2 bs => (A.below t.below).1
        have d1 := fun t : Gb w2 bs => (A.below t.below).2.1
        have d2 := fun t : Gb w2 bs => (A.below t.below).2.2.1
        have d3 := fun t : Gb w2 bs => (A.below t.below).2.2.2
        clear A
        simp only [List.take_succ_cons, List.take_zero]
        repeat (go_big_quiet_step (first
          | (go_at_call 50; exact gb_call (rright_any _ _ _ _ _ (by omega) (by omega) (by omega) (by omega)))
          | (go_at_call 51; exact gb_call (rbelow_any _ _ _ _ _ (by omega) (by omega) (by omega) (by omega)))
          | (go_at_call 48; exact gb_call (hE.out _))))
        exact wpQuiet_nil rfl
      · intro bl wr hb hlo hinj
        obtain ⟨q1, q2⟩ := hlo 19 (by omega) (by omega)
        obtain ⟨v1, v2, v3⟩ := heap_cells q2
        simp only [layL, ptr]
        generalize bl 19 = g at *
        clear hlo hinj q2
        obtain ⟨A, C, F, L⟩ := HL.out
        have lc0 := C.lt
        replace C := C.below hb
        replace F := F.below hb
        replace L := L.trans (hb.mono L.size)
        have z : At4 wr g 0 0 0 0 := ⟨by rw [v1]; rfl, by rw [v1]; rfl, by rw [v1]; rfl, by rw [v1]; rfl⟩
        refine wpAny_one 20 (by kernel_rfl) rfl ?_
        intro K hK
        go_simp
        refine hK _ _ ?_
        clear hK K
        refine wpAny_done (by kernel_rfl) ?_ _
        replace C := C.set4 ox oy ow oh (show g ≠ _ by omega)
        replace F := F.set4 g ox oy ow oh
        replace L := set4_below L (show _ ≤ g by omega) (.int .i64 ox) (.int .i64 oy) (.int .i64 ow) (.int .i64 oh)
        replace z := z.put ox oy ow oh
        generalize ((((wr.setCell ⟨g, 0, none⟩ (.int .i64 ox)).setCell ⟨g, 1, none⟩ (.int .i64 oy)).setCell ⟨g, 2, none⟩ (.int .i64 ow)).setCell ⟨g, 3, none⟩ (.int .i64 oh)) = wz at *
        clear v1 v2 v3 A HL hb hE
        obtain ⟨z0, z1, z2, z3⟩ := id z
        go_wp2_with fail
        clear z0 z1 z2 z3
        refine (rmay_any _ _ _ _ _).mono ?_
        rintro e w5 ⟨rfl, hb⟩
        replace F := (F.below hb).2
        replace C := C.below hb
        replace z := z.below hb
        replace L := L.trans (hb.mono L.size)
        clear hb
        obtain ⟨d0, d1, d2, d3⟩ := id C
        obtain ⟨z0, z1, z2, z3⟩ := id z
        go_wp2
        exact bodyPost_ret (v := .tuple #[.agg #[.int .i64 ox, .int .i64 oy, .int .i64 ow, .int .i64 oh], .int .i64 0]) (by simp [results, Try.results35, go_sem, d0, d1, d2, d3]) rfl ⟨rfl, set4_below L (by omega) _ _ _ _⟩

end Go.Proofs.Ytfknfcmabeahhaa
