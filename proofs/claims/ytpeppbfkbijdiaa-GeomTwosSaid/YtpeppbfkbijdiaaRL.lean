/-
  Contract of the document's answer: what one rectangle has and another one has not: four pieces laid into one list by appends, one after another.
-/
import Derived.Test.YtpeppbfkbijdiaaLs
import Derived.Test.YtpeppbfkbijdiaaRJ
import Derived.Test.YtpeppbfkbijdiaaReg3
import Derived.Deep.AppendLies
import Derived.Deep.RegionWith
import Derived.Deep.Onto
import Derived.Test.YtpeppbfkbijdiaaPlain5
namespace Go.Proofs.Ytpeppbfkbijdiaa
open Go.RowKit

theorem add_at (g j : Nat) : (⟨g, 0, none⟩ : Addr).add j = ⟨g, j, none⟩ := by
  simp [Addr.add]
  intro h
  exact h.symm
theorem own_below {w w1 : World} {base : Nat} {e : TypeId} {size : Nat} {v : Value} {n : Nat} {xs : List Value} (h : w.ownsRow base e size v n xs) (hb : Below w.heap.size w w1) : w1.ownsRow base e size v n xs := by
  refine ⟨h.1, ?_⟩
  rcases h.2 with h' | ⟨g, cap, cur, h1, h2, hg, rest⟩
  · exact .inl h'
  · exact .inr ⟨g, cap, cur, h1, h2, by rw [hb.block g (Array.getElem?_eq_some_iff.1 hg).1]; exact hg, rest⟩

set_option maxHeartbeats 400000 in
theorem rchecks_any (ax ay aw ah bx by' bw bh : Int) (w : World) :
    Calls Try.prog 54 #[.agg #[.int .i64 ax, .int .i64 ay, .int .i64 aw, .int .i64 ah], .agg #[.int .i64 bx, .int .i64 by', .int .i64 bw, .int .i64 bh]] w fun e w' => e = .returned (.int .i64 (lesE ax ay aw ah bx by' bw bh)) ∧ Below w.heap.size w w' := by
  have cs : mayB ax ay aw ah = false ∨ (mayB ax ay aw ah = true ∧ mayB bx by' bw bh = false) ∨ (mayB ax ay aw ah = true ∧ mayB bx by' bw bh = true) := by
    cases mayB ax ay aw ah <;> cases mayB bx by' bw bh <;> simp
  rcases cs with h1 | ⟨h1, h2⟩ | ⟨h1, h2⟩
  · rw [show lesE ax ay aw ah bx by' bw bh = 5 by simp [lesE, h1]]
    go_enter Try.func54, Try.ntmps54
    go_wp2_with fail
    refine (rmay_any _ _ _ _ _).mono ?_
    rintro e w1 ⟨rfl, hb⟩
    have L := (((Below.refl w.heap.size w).alloc (Nat.le_refl _) _).alloc (by simp) _).trans (hb.mono (by simp; omega))
    clear hb
    go_wp2
    go_ret
    exact ⟨rfl, L⟩
  · rw [show lesE ax ay aw ah bx by' bw bh = 5 by simp [lesE, h2]]
    go_enter Try.func54, Try.ntmps54
    go_wp2_with fail
    refine (rmay_any _ _ _ _ _).mono ?_
    rintro e w1 ⟨rfl, hb⟩
    have B := (At4.new' (w.alloc _) (w.heap.size + 1) bx by' bw bh 29 (by simp)).below hb
    have L := (((Below.refl w.heap.size w).alloc (Nat.le_refl _) _).alloc (by simp) _).trans (hb.mono (by simp; omega))
    clear hb
    obtain ⟨b0, b1, b2, b3⟩ := id B
    go_wp2_with fail
    clear b0 b1 b2 b3
    refine (rmay_any _ _ _ _ _).mono ?_
    rintro e w2 ⟨rfl, hb⟩
    replace L := L.trans (hb.mono L.size)
    clear B hb
    go_wp2
    go_ret
    exact ⟨rfl, L⟩
  · rw [show lesE ax ay aw ah bx by' bw bh = 0 by simp [lesE, h1, h2]]
    go_enter Try.func54, Try.ntmps54
    go_wp2_with fail
    refine (rmay_any _ _ _ _ _).mono ?_
    rintro e w1 ⟨rfl, hb⟩
    have B := (At4.new' (w.alloc _) (w.heap.size + 1) bx by' bw bh 29 (by simp)).below hb
    have L := (((Below.refl w.heap.size w).alloc (Nat.le_refl _) _).alloc (by simp) _).trans (hb.mono (by simp; omega))
    clear hb
    obtain ⟨b0, b1, b2, b3⟩ := id B
    go_wp2_with fail
    clear b0 b1 b2 b3
    refine (rmay_any _ _ _ _ _).mono ?_
    rintro e w2 ⟨rfl, hb⟩
    replace L := L.trans (hb.mono L.size)
    clear B hb
    go_wp2
    go_ret
    exact ⟨rfl, L⟩

set_option maxHeartbeats 1000000 in
theorem rless_err (ax ay aw ah bx by' bw bh : Int) (w : World) (h0 : (mayB ax ay aw ah && mayB bx by' bw bh) = false) :
    Calls Try.prog 29 #[.agg #[.int .i64 ax, .int .i64 ay, .int .i64 aw, .int .i64 ah], .agg #[.int .i64 bx, .int .i64 by', .int .i64 bw, .int .i64 bh]] w fun e w' =>
      ∃ v, e = .returned (.tuple #[v, .int .i64 (lesE ax ay aw ah bx by' bw bh)]) ∧ w'.ownsRow w.heap.size 29 4 v (lesL ax ay aw ah bx by' bw bh).length (flat (lesL ax ay aw ah bx by' bw bh)) ∧ Below w.heap.size w w' := by
  have hE : lesE ax ay aw ah bx by' bw bh = 5 := by simp [lesE, h0]
  have hR : lesL ax ay aw ah bx by' bw bh = [] := by
    have : (mayB ax ay aw ah && (mayB bx by' bw bh && !emptyB ax ay aw ah)) = false := by rw [← Bool.and_assoc, h0]; rfl
    simp [lesL, this]
  have hC : Hid (∀ w, Calls Try.prog 54 #[.agg #[.int .i64 ax, .int .i64 ay, .int .i64 aw, .int .i64 ah], .agg #[.int .i64 bx, .int .i64 by', .int .i64 bw, .int .i64 bh]] w fun e w' => e = .returned (.int .i64 5) ∧ Below w.heap.size w w') := fun w => by
    have := rchecks_any ax ay aw ah bx by' bw bh w
    rwa [hE] at this
  rw [hR, hE]
  clear hE hR
  go_enter Try.func29, Try.ntmps29
  go_wp2_with fail
  obtain ⟨A, B, L⟩ := boxes_rr w ax ay aw ah bx by' bw bh 29 29
  refine (hC.out _).mono ?_
  rintro e w1 ⟨rfl, hb⟩
  replace A := A.below hb
  replace B := B.below hb
  replace L := L.trans (hb.mono L.size)
  clear hb hC
  go_wp2
  go_ret2
  exact ⟨_, rfl, World.ownsRow_nil _ _ _ _, L⟩

set_option maxHeartbeats 1000000 in
theorem rless_empty (ax ay aw ah bx by' bw bh : Int) (w : World) (h1 : mayB ax ay aw ah = true) (h2 : mayB bx by' bw bh = true) (h3 : emptyB ax ay aw ah = true) :
    Calls Try.prog 29 #[.agg #[.int .i64 ax, .int .i64 ay, .int .i64 aw, .int .i64 ah], .agg #[.int .i64 bx, .int .i64 by', .int .i64 bw, .int .i64 bh]] w fun e w' =>
      ∃ v, e = .returned (.tuple #[v, .int .i64 (lesE ax ay aw ah bx by' bw bh)]) ∧ w'.ownsRow w.heap.size 29 4 v (lesL ax ay aw ah bx by' bw bh).length (flat (lesL ax ay aw ah bx by' bw bh)) ∧ Below w.heap.size w w' := by
  have hE : lesE ax ay aw ah bx by' bw bh = 0 := by simp [lesE, h1, h2]
  have hR : lesL ax ay aw ah bx by' bw bh = [] := by simp [lesL, h3]
  have hC : Hid (∀ w, Calls Try.prog 54 #[.agg #[.int .i64 ax, .int .i64 ay, .int .i64 aw, .int .i64 ah], .agg #[.int .i64 bx, .int .i64 by', .int .i64 bw, .int .i64 bh]] w fun e w' => e = .returned (.int .i64 0) ∧ Below w.heap.size w w') := fun w => by
    have := rchecks_any ax ay aw ah bx by' bw bh w
    rwa [hE] at this
  have hY : Hid (∀ w, Calls Try.prog 23 #[.agg #[.int .i64 ax, .int .i64 ay, .int .i64 aw, .int .i64 ah]] w fun e w' => e = .returned (.bool true) ∧ Below w.heap.size w w') := fun w => by
    have := rempty_any ax ay aw ah w
    rwa [h3] at this
  rw [hR, hE]
  clear hE hR
  go_enter Try.func29, Try.ntmps29
  go_wp2_with fail
  obtain ⟨A, B, L⟩ := boxes_rr w ax ay aw ah bx by' bw bh 29 29
  refine (hC.out _).mono ?_
  rintro e w1 ⟨rfl, hb⟩
  replace A := A.below hb
  replace B := B.below hb
  replace L := L.trans (hb.mono L.size)
  clear hb hC
  obtain ⟨d0, d1, d2, d3⟩ := id A
  obtain ⟨e0, e1, e2, e3⟩ := id B
  go_wp2_with fail
  clear d0 d1 d2 d3 e0 e1 e2 e3
  refine (hY.out _).mono ?_
  rintro e w2 ⟨rfl, hb⟩
  replace A := A.below hb
  replace B := B.below hb
  replace L := L.trans (hb.mono L.size)
  clear hb
  go_wp2
  go_ret2
  exact ⟨_, rfl, World.ownsRow_nil _ _ _ _, L⟩

theorem meet_empty {ax ay aw ah bx by' bw bh : Int} (h3 : emptyB ax ay aw ah = false) : emptyB (meetR ax ay aw ah bx by' bw bh).x (meetR ax ay aw ah bx by' bw bh).y (meetR ax ay aw ah bx by' bw bh).w (meetR ax ay aw ah bx by' bw bh).h = eqB (meetR ax ay aw ah bx by' bw bh) 0 0 0 0 := by
  cases h4 : emptyB bx by' bw bh
  · obtain ⟨a1, a2, a3, a4, a5, a6, a7, a8, a9, a10⟩ := bounds_of h3
    obtain ⟨b1, b2, b3, b4, b5, b6, b7, b8, b9, b10⟩ := bounds_of h4
    have hm : meetR ax ay aw ah bx by' bw bh = btw (max ax bx) (max ay by') (min (ax + aw) (bx + bw)) (min (ay + ah) (by' + bh)) := by simp [meetR, h3, h4]
    rw [hm]
    by_cases hc : min (ax + aw) (bx + bw) ≤ max ax bx ∨ min (ay + ah) (by' + bh) ≤ max ay by'
    · rw [btw_no hc]; rfl
    · rw [btw_yes (by omega) (by omega)]
      show emptyB (max ax bx) (max ay by') (min (ax + aw) (bx + bw) - max ax bx) (min (ay + ah) (by' + bh) - max ay by') = _
      rw [empty_mk (by omega) (by omega)]
      have : ((min (ax + aw) (bx + bw) - max ax bx) == (0 : Int)) = false := beq_eq_false_iff_ne.2 (by omega)
      simp [eqB, this]
  · have hm : meetR ax ay aw ah bx by' bw bh = zr := by simp [meetR, h4]
    rw [hm]; rfl

set_option maxHeartbeats 1000000 in
theorem rless_apart (ax ay aw ah bx by' bw bh : Int) (w : World) (h1 : mayB ax ay aw ah = true) (h2 : mayB bx by' bw bh = true) (h3 : emptyB ax ay aw ah = false) (h4 : eqB (meetR ax ay aw ah bx by' bw bh) 0 0 0 0 = true) :
    Calls Try.prog 29 #[.agg #[.int .i64 ax, .int .i64 ay, .int .i64 aw, .int .i64 ah], .agg #[.int .i64 bx, .int .i64 by', .int .i64 bw, .int .i64 bh]] w fun e w' =>
      ∃ v, e = .returned (.tuple #[v, .int .i64 (lesE ax ay aw ah bx by' bw bh)]) ∧ w'.ownsRow w.heap.size 29 4 v (lesL ax ay aw ah bx by' bw bh).length (flat (lesL ax ay aw ah bx by' bw bh)) ∧ Below w.heap.size w w' := by
  have hE : lesE ax ay aw ah bx by' bw bh = 0 := by simp [lesE, h1, h2]
  have hR : lesL ax ay aw ah bx by' bw bh = [⟨ax, ay, aw, ah⟩] := by simp only [lesL, h1, h2, h3, h4]; simp
  have hC : Hid (∀ w, Calls Try.prog 54 #[.agg #[.int .i64 ax, .int .i64 ay, .int .i64 aw, .int .i64 ah], .agg #[.int .i64 bx, .int .i64 by', .int .i64 bw, .int .i64 bh]] w fun e w' => e = .returned (.int .i64 0) ∧ Below w.heap.size w w') := fun w => by
    have := rchecks_any ax ay aw ah bx by' bw bh w
    rwa [hE] at this
  have hY : Hid (∀ w, Calls Try.prog 23 #[.agg #[.int .i64 ax, .int .i64 ay, .int .i64 aw, .int .i64 ah]] w fun e w' => e = .returned (.bool false) ∧ Below w.heap.size w w') := fun w => by
    have := rempty_any ax ay aw ah w
    rwa [h3] at this
  have hM : Hid (∀ w, Calls Try.prog 34 #[.agg #[.int .i64 ax, .int .i64 ay, .int .i64 aw, .int .i64 ah], .agg #[.int .i64 bx, .int .i64 by', .int .i64 bw, .int .i64 bh]] w fun e w' => e = .returned (.agg #[.int .i64 (meetR ax ay aw ah bx by' bw bh).x, .int .i64 (meetR ax ay aw ah bx by' bw bh).y, .int .i64 (meetR ax ay aw ah bx by' bw bh).w, .int .i64 (meetR ax ay aw ah bx by' bw bh).h]) ∧ Below w.heap.size w w') := fun w => rmeet_any _ _ _ _ _ _ _ _ _
  have hX : Hid (∀ w, Calls Try.prog 23 #[.agg #[.int .i64 (meetR ax ay aw ah bx by' bw bh).x, .int .i64 (meetR ax ay aw ah bx by' bw bh).y, .int .i64 (meetR ax ay aw ah bx by' bw bh).w, .int .i64 (meetR ax ay aw ah bx by' bw bh).h]] w fun e w' => e = .returned (.bool true) ∧ Below w.heap.size w w') := fun w => by
    have := rempty_any (meetR ax ay aw ah bx by' bw bh).x (meetR ax ay aw ah bx by' bw bh).y (meetR ax ay aw ah bx by' bw bh).w (meetR ax ay aw ah bx by' bw bh).h w
    rwa [meet_empty h3, h4] at this
  rw [hR, hE]
  clear hE hR h4
  generalize meetR ax ay aw ah bx by' bw bh = rm at *
  go_enter Try.func29, Try.ntmps29
  go_wp2_with fail
  obtain ⟨A, B, L⟩ := boxes_rr w ax ay aw ah bx by' bw bh 29 29
  refine (hC.out _).mono ?_
  rintro e w1 ⟨rfl, hb⟩
  replace A := A.below hb
  replace B := B.below hb
  replace L := L.trans (hb.mono L.size)
  clear hb hC
  obtain ⟨d0, d1, d2, d3⟩ := id A
  obtain ⟨e0, e1, e2, e3⟩ := id B
  go_wp2_with fail
  clear d0 d1 d2 d3 e0 e1 e2 e3
  refine (hY.out _).mono ?_
  rintro e w2 ⟨rfl, hb⟩
  replace A := A.below hb
  replace B := B.below hb
  replace L := L.trans (hb.mono L.size)
  clear hb
  obtain ⟨d0, d1, d2, d3⟩ := id A
  obtain ⟨e0, e1, e2, e3⟩ := id B
  go_wp2_with fail
  clear d0 d1 d2 d3 e0 e1 e2 e3
  refine (hM.out _).mono ?_
  rintro e w3 ⟨rfl, hb⟩
  replace A := A.below hb
  replace B := B.below hb
  replace L := L.trans (hb.mono L.size)
  clear hb
  have la := A.lt
  obtain ⟨d0, d1, d2, d3⟩ := id A
  go_wp2_with fail
  clear d0 d1 d2 d3 la
  refine (hX.out _).mono ?_
  rintro e w4 ⟨rfl, hb⟩
  replace A := (A.alloc _).below hb
  replace L := (L.alloc L.size _).trans (hb.mono (by have := L.size; simp; omega))
  clear hb B
  obtain ⟨d0, d1, d2, d3⟩ := id A
  go_wp2
  go_ret2
  have hz := L.size
  exact ⟨_, rfl, World.ownsRow_lit w4 #[.int .i64 ax, .int .i64 ay, .int .i64 aw, .int .i64 ah] 1 hz (by unfold maxLen; omega) rfl, L.alloc L.size _⟩

theorem meet_bd2 {ax ay aw ah bx by' bw bh : Int} (e : emptyB ax ay aw ah = false) : (meetR ax ay aw ah bx by' bw bh).x + (meetR ax ay aw ah bx by' bw bh).w ≤ 16384 ∧ (meetR ax ay aw ah bx by' bw bh).y + (meetR ax ay aw ah bx by' bw bh).h ≤ 16384 := by
  obtain ⟨a1, a2, a3, a4, a5, a6, a7, a8, a9, a10⟩ := bounds_of e
  unfold meetR
  cases h2 : emptyB bx by' bw bh
  · obtain ⟨b1, b2, b3, b4, b5, b6, b7, b8, b9, b10⟩ := bounds_of h2
    simp only [e, Bool.or_self, Bool.false_eq_true, if_false]
    unfold btw
    split
    · simp [zr]
    · simp only; omega
  · simp [zr]
theorem piece_empty (lx ly hx hy : Int) (h1 : -16384 ≤ lx) (h2 : hx ≤ 16384) (h3 : -16384 ≤ ly) (h4 : hy ≤ 16384) : emptyB (btw lx ly hx hy).x (btw lx ly hx hy).y (btw lx ly hx hy).w (btw lx ly hx hy).h = !keepB (btw lx ly hx hy) := by
  by_cases c : hx ≤ lx ∨ hy ≤ ly
  · rw [btw_no c]; rfl
  · rw [(keep_btw lx ly hx hy).2 (by omega), btw_yes (by omega) (by omega)]
    show emptyB lx ly (hx - lx) (hy - ly) = false
    exact empty_mk (by omega) (by omega)

set_option maxHeartbeats 8000000 in
theorem rless_main (ax ay aw ah bx by' bw bh mx my mw mh : Int) (w : World) (h1 : mayB ax ay aw ah = true) (h2 : mayB bx by' bw bh = true) (h3 : emptyB ax ay aw ah = false) (hm : meetR ax ay aw ah bx by' bw bh = ⟨mx, my, mw, mh⟩) (h4 : eqB (meetR ax ay aw ah bx by' bw bh) 0 0 0 0 = false) :
    Calls Try.prog 29 #[.agg #[.int .i64 ax, .int .i64 ay, .int .i64 aw, .int .i64 ah], .agg #[.int .i64 bx, .int .i64 by', .int .i64 bw, .int .i64 bh]] w fun e w' =>
      ∃ v, e = .returned (.tuple #[v, .int .i64 (lesE ax ay aw ah bx by' bw bh)]) ∧ w'.ownsRow w.heap.size 29 4 v (lesL ax ay aw ah bx by' bw bh).length (flat (lesL ax ay aw ah bx by' bw bh)) ∧ Below w.heap.size w w' := by
  have hE : lesE ax ay aw ah bx by' bw bh = 0 := by simp [lesE, h1, h2]
  obtain ⟨m1, m2, m3, m4, m5, m6, m7, m8⟩ := meet_bd (bx := bx) (by' := by') (bw := bw) (bh := bh) h3
  obtain ⟨m9, m10⟩ := meet_bd2 (bx := bx) (by' := by') (bw := bw) (bh := bh) h3
  obtain ⟨a1, a2, a3, a4, a5, a6, a7, a8, a9, a10⟩ := bounds_of h3
  have hR : lesL ax ay aw ah bx by' bw bh = (pcs ax ay aw ah mx my mw mh).filter keepB := by simp only [lesL, h1, h2, h3, h4]; rw [hm]; simp
  have hC : Hid (∀ w, Calls Try.prog 54 #[.agg #[.int .i64 ax, .int .i64 ay, .int .i64 aw, .int .i64 ah], .agg #[.int .i64 bx, .int .i64 by', .int .i64 bw, .int .i64 bh]] w fun e w' => e = .returned (.int .i64 0) ∧ Below w.heap.size w w') := fun w => by
    have := rchecks_any ax ay aw ah bx by' bw bh w
    rwa [hE] at this
  have hY : Hid (∀ w, Calls Try.prog 23 #[.agg #[.int .i64 ax, .int .i64 ay, .int .i64 aw, .int .i64 ah]] w fun e w' => e = .returned (.bool false) ∧ Below w.heap.size w w') := fun w => by
    have := rempty_any ax ay aw ah w
    rwa [h3] at this
  have hM : Hid (∀ w, Calls Try.prog 34 #[.agg #[.int .i64 ax, .int .i64 ay, .int .i64 aw, .int .i64 ah], .agg #[.int .i64 bx, .int .i64 by', .int .i64 bw, .int .i64 bh]] w fun e w' => e = .returned (.agg #[.int .i64 mx, .int .i64 my, .int .i64 mw, .int .i64 mh]) ∧ Below w.heap.size w w') := fun w => by
    have := rmeet_any ax ay aw ah bx by' bw bh w
    rwa [hm] at this
  have hX : Hid (∀ w, Calls Try.prog 23 #[.agg #[.int .i64 mx, .int .i64 my, .int .i64 mw, .int .i64 mh]] w fun e w' => e = .returned (.bool false) ∧ Below w.heap.size w w') := fun w => by
    have := rempty_any mx my mw mh w
    have e := meet_empty (bx := bx) (by' := by') (bw := bw) (bh := bh) h3
    rw [h4, hm] at e
    rwa [e] at this
  rw [hm] at m1 m2 m3 m4 m5 m6 m7 m8 m9 m10
  simp only at m1 m2 m3 m4 m5 m6 m7 m8 m9 m10
  have hRa : Hid (∀ w, Calls Try.prog 50 #[.agg #[.int .i64 ax, .int .i64 ay, .int .i64 aw, .int .i64 ah]] w fun e w' => e = .returned (.int .i64 (ax + aw)) ∧ Below w.heap.size w w') := fun w => rright_any _ _ _ _ _ (by omega) (by omega) (by omega) (by omega)
  have hRm : Hid (∀ w, Calls Try.prog 50 #[.agg #[.int .i64 mx, .int .i64 my, .int .i64 mw, .int .i64 mh]] w fun e w' => e = .returned (.int .i64 (mx + mw)) ∧ Below w.heap.size w w') := fun w => rright_any _ _ _ _ _ (by omega) (by omega) (by omega) (by omega)
  have hBa : Hid (∀ w, Calls Try.prog 51 #[.agg #[.int .i64 ax, .int .i64 ay, .int .i64 aw, .int .i64 ah]] w fun e w' => e = .returned (.int .i64 (ay + ah)) ∧ Below w.heap.size w w') := fun w => rbelow_any _ _ _ _ _ (by omega) (by omega) (by omega) (by omega)
  have hBm : Hid (∀ w, Calls Try.prog 51 #[.agg #[.int .i64 mx, .int .i64 my, .int .i64 mw, .int .i64 mh]] w fun e w' => e = .returned (.int .i64 (my + mh)) ∧ Below w.heap.size w w') := fun w => rbelow_any _ _ _ _ _ (by omega) (by omega) (by omega) (by omega)
  have hF0 : Hid (∀ w, Calls Try.prog 48 #[.int .i64 ax, .int .i64 ay, .int .i64 (ax + aw), .int .i64 my] w fun e w' => e = .returned (.agg #[.int .i64 (btw ax ay (ax + aw) my).x, .int .i64 (btw ax ay (ax + aw) my).y, .int .i64 (btw ax ay (ax + aw) my).w, .int .i64 (btw ax ay (ax + aw) my).h]) ∧ Below w.heap.size w w') := fun w => from_any _ _ _ _ _ (by omega) (by omega) (by omega) (by omega) (by omega) (by omega) (by omega) (by omega)
  have hF1 : Hid (∀ w, Calls Try.prog 48 #[.int .i64 ax, .int .i64 my, .int .i64 mx, .int .i64 (my + mh)] w fun e w' => e = .returned (.agg #[.int .i64 (btw ax my mx (my + mh)).x, .int .i64 (btw ax my mx (my + mh)).y, .int .i64 (btw ax my mx (my + mh)).w, .int .i64 (btw ax my mx (my + mh)).h]) ∧ Below w.heap.size w w') := fun w => from_any _ _ _ _ _ (by omega) (by omega) (by omega) (by omega) (by omega) (by omega) (by omega) (by omega)
  have hF2 : Hid (∀ w, Calls Try.prog 48 #[.int .i64 (mx + mw), .int .i64 my, .int .i64 (ax + aw), .int .i64 (my + mh)] w fun e w' => e = .returned (.agg #[.int .i64 (btw (mx + mw) my (ax + aw) (my + mh)).x, .int .i64 (btw (mx + mw) my (ax + aw) (my + mh)).y, .int .i64 (btw (mx + mw) my (ax + aw) (my + mh)).w, .int .i64 (btw (mx + mw) my (ax + aw) (my + mh)).h]) ∧ Below w.heap.size w w') := fun w => from_any _ _ _ _ _ (by omega) (by omega) (by omega) (by omega) (by omega) (by omega) (by omega) (by omega)
  have hF3 : Hid (∀ w, Calls Try.prog 48 #[.int .i64 ax, .int .i64 (my + mh), .int .i64 (ax + aw), .int .i64 (ay + ah)] w fun e w' => e = .returned (.agg #[.int .i64 (btw ax (my + mh) (ax + aw) (ay + ah)).x, .int .i64 (btw ax (my + mh) (ax + aw) (ay + ah)).y, .int .i64 (btw ax (my + mh) (ax + aw) (ay + ah)).w, .int .i64 (btw ax (my + mh) (ax + aw) (ay + ah)).h]) ∧ Below w.heap.size w w') := fun w => from_any _ _ _ _ _ (by omega) (by omega) (by omega) (by omega) (by omega) (by omega) (by omega) (by omega)
  have hK0 := piece_empty ax ay (ax + aw) my (by omega) (by omega) (by omega) (by omega)
  have hK1 := piece_empty ax my mx (my + mh) (by omega) (by omega) (by omega) (by omega)
  have hK2 := piece_empty (mx + mw) my (ax + aw) (my + mh) (by omega) (by omega) (by omega) (by omega)
  have hK3 := piece_empty ax (my + mh) (ax + aw) (ay + ah) (by omega) (by omega) (by omega) (by omega)
  unfold pcs at hR
  generalize btw ax ay (ax + aw) my = o0 at *
  generalize btw ax my mx (my + mh) = o1 at *
  generalize btw (mx + mw) my (ax + aw) (my + mh) = o2 at *
  generalize btw ax (my + mh) (ax + aw) (ay + ah) = o3 at *
  have hQ0 : Hid (∀ w, Calls Try.prog 23 #[.agg #[.int .i64 o0.x, .int .i64 o0.y, .int .i64 o0.w, .int .i64 o0.h]] w fun e w' => e = .returned (.bool (!keepB o0)) ∧ Below w.heap.size w w') := fun w => by
    have := rempty_any o0.x o0.y o0.w o0.h w
    rwa [hK0] at this
  have hQ1 : Hid (∀ w, Calls Try.prog 23 #[.agg #[.int .i64 o1.x, .int .i64 o1.y, .int .i64 o1.w, .int .i64 o1.h]] w fun e w' => e = .returned (.bool (!keepB o1)) ∧ Below w.heap.size w w') := fun w => by
    have := rempty_any o1.x o1.y o1.w o1.h w
    rwa [hK1] at this
  have hQ2 : Hid (∀ w, Calls Try.prog 23 #[.agg #[.int .i64 o2.x, .int .i64 o2.y, .int .i64 o2.w, .int .i64 o2.h]] w fun e w' => e = .returned (.bool (!keepB o2)) ∧ Below w.heap.size w w') := fun w => by
    have := rempty_any o2.x o2.y o2.w o2.h w
    rwa [hK2] at this
  have hQ3 : Hid (∀ w, Calls Try.prog 23 #[.agg #[.int .i64 o3.x, .int .i64 o3.y, .int .i64 o3.w, .int .i64 o3.h]] w fun e w' => e = .returned (.bool (!keepB o3)) ∧ Below w.heap.size w w') := fun w => by
    have := rempty_any o3.x o3.y o3.w o3.h w
    rwa [hK3] at this
  generalize ax + aw = ex at *
  generalize ay + ah = ey at *
  generalize mx + mw = fx at *
  generalize my + mh = fy at *
  rw [hE, hR]
  clear hE hR hK0 hK1 hK2 hK3 h1 h2 h3 h4 hm m1 m2 m3 m4 m5 m6 m7 m8 m9 m10 a1 a2 a3 a4 a5 a6 a7 a8 a9 a10
  obtain ⟨i0, hi, hz0, hz1, hz2⟩ := info_parts info_rect
  go_enter Try.func29, Try.ntmps29
  go_wp2_with fail
  obtain ⟨A, B, L⟩ := boxes_rr w ax ay aw ah bx by' bw bh 29 29
  refine (hC.out _).mono ?_
  rintro e w1 ⟨rfl, hb⟩
  replace A := A.below hb
  replace B := B.below hb
  replace L := L.trans (hb.mono L.size)
  clear hb hC
  obtain ⟨d0, d1, d2, d3⟩ := id A
  obtain ⟨e0, e1, e2, e3⟩ := id B
  go_wp2_with fail
  clear d0 d1 d2 d3 e0 e1 e2 e3
  refine (hY.out _).mono ?_
  rintro e w2 ⟨rfl, hb⟩
  replace A := A.below hb
  replace B := B.below hb
  replace L := L.trans (hb.mono L.size)
  clear hb
  obtain ⟨d0, d1, d2, d3⟩ := id A
  obtain ⟨e0, e1, e2, e3⟩ := id B
  go_wp2_with fail
  clear d0 d1 d2 d3 e0 e1 e2 e3
  refine (hM.out _).mono ?_
  rintro e w3 ⟨rfl, hb⟩
  replace A := A.below hb
  replace B := B.below hb
  replace L := L.trans (hb.mono L.size)
  clear hb
  have la := A.lt
  obtain ⟨d0, d1, d2, d3⟩ := id A
  go_wp2_with fail
  clear d0 d1 d2 d3 la
  refine (hX.out _).mono ?_
  rintro e X0 ⟨rfl, hb⟩
  replace A := (A.alloc _).below hb
  have C := (At4.new w3 mx my mw mh 29).below hb
  replace L := (L.alloc L.size _).trans (hb.mono (by have := L.size; simp; omega))
  clear hb B
  have HB : Hid (At4 X0 w.heap.size ax ay aw ah ∧ At4 X0 w3.heap.size mx my mw mh) := ⟨A, C⟩
  have HL : Hid (Below w.heap.size w X0) := L
  have HZ0 : Hid (Below X0.heap.size X0 X0 ∧ X0.ownsRow X0.heap.size 29 4 (.slice none 0 0) 0 (flat [])) := ⟨Below.refl _ _, World.ownsRow_nil _ _ _ _⟩
  clear A C L hX hM hY
  go_wp2_with fail
  refine R3.wp_region_lit 13 1 2 (fun _ b => .slice (some ⟨b, 0, none⟩) 1 1) (fun _ => .cells #[.int .i64 o0.x, .int .i64 o0.y, .int .i64 o0.w, .int .i64 o0.h] 29) [39] (by kernel_rfl) (by kernel_rfl) rfl ?_ rfl ?_
  · intro k hk
    have hc : k = 0 := by omega
    subst hc; rfl
  apply Exists.intro
  refine ⟨fun bs ne => ?_, ?_, ?_⟩
  · obtain ⟨A, B⟩ := HB.out
    have Z := HZ0.out.1
    have d0 := fun t : Gb X0 bs => (A.below (Z.trans (t.below.mono Z.size))).1
    have d1 := fun t : Gb X0 bs => (A.below (Z.trans (t.below.mono Z.size))).2.1
    have d2 := fun t : Gb X0 bs => (A.below (Z.trans (t.below.mono Z.size))).2.2.1
    have d3 := fun t : Gb X0 bs => (A.below (Z.trans (t.below.mono Z.size))).2.2.2
    have e0 := fun t : Gb X0 bs => (B.below (Z.trans (t.below.mono Z.size))).1
    have e1 := fun t : Gb X0 bs => (B.below (Z.trans (t.below.mono Z.size))).2.1
    have e2 := fun t : Gb X0 bs => (B.below (Z.trans (t.below.mono Z.size))).2.2.1
    have e3 := fun t : Gb X0 bs => (B.below (Z.trans (t.below.mono Z.size))).2.2.2
    clear A B Z
    simp only [List.take_succ_cons, List.take_zero]
    repeat (go_big_quiet_step (first
      | (go_at_call 50; exact gb_call (hRa.out _))
      | (go_at_call 48; exact gb_call (hF0.out _))))
    exact wpQuiet_nil rfl
  · intro i h1 h2
    have hc : i = 13 := by omega
    subst hc
    exact ⟨_, rfl, rfl, fun _ => by kernel_rfl⟩
  intro bl wr0 hb hlo _
  obtain ⟨q1, q2⟩ := hlo 13 (by omega) (by omega)
  simp only [R3.layL]
  generalize bl 13 = g0 at *
  clear hlo
  obtain ⟨Z, R⟩ := HZ0.out
  replace R := own_below R hb
  replace Z := Z.trans (hb.mono Z.size)
  obtain ⟨c1, _, _⟩ := heap_cells q2
  have zs := Z.size
  have HW0 : Hid (Below X0.heap.size X0 wr0 ∧ wr0.ownsRow X0.heap.size 29 4 (.slice none 0 0) 0 (flat []) ∧ X0.heap.size ≤ wr0.heap.size ∧ ∀ o, wr0.cell? ⟨g0, o, none⟩ = (#[.int .i64 o0.x, .int .i64 o0.y, .int .i64 o0.w, .int .i64 o0.h] : Array Value)[o]?) := ⟨Z, R, zs, c1⟩
  clear hb q1 q2 Z R c1 zs HZ0
  refine wpAny_one 14 (by kernel_rfl) rfl ?_
  intro K hK
  obtain ⟨Z, R, zs, c1⟩ := HW0.out
  refine step_append_lies wr0 (by rfl) _ _ 43 (by rfl) X0.heap.size 29 i0 (.agg #[.int .i64 0, .int .i64 0, .int .i64 0, .int .i64 0]) 4 32 Try.underlying43 hi hz0 hz1 hz2 rfl (by decide) (.slice none 0 0) 0 (flat []) (by rfl) R ⟨g0, 0, none⟩ 1 1 [.int .i64 o0.x, .int .i64 o0.y, .int .i64 o0.w, .int .i64 o0.h] (by rfl) rfl ?_ ?_ (by decide) (by decide) (by decide) zs wr0.heap.size rfl ?_
  · intro j u hj
    have hj4 : j < 4 := by
      have := (List.getElem?_eq_some_iff.1 hj).1
      simpa using this
    rw [add_at g0 j, c1 j]
    simpa using hj
  · intro u hu
    simp at hu
    rcases hu with rfl | rfl | rfl | rfl <;> rfl
  intro h0 cap0 X1 hown hgrow _ _
  have HZ1 : Hid (Below X0.heap.size X0 X1 ∧ X1.ownsRow X0.heap.size 29 4 (.slice (some ⟨h0, 0, none⟩) 1 cap0) 1 (flat [o0])) := ⟨Z.grown hgrow zs (fun b hb => (R.lt b hb).1), hown⟩
  clear Z R zs c1 hown hgrow
  generalize hvv : Value.slice (some ⟨h0, 0, none⟩) (0 + 1) cap0 = v1 at *
  refine hK _ _ ?_
  clear hK K
  refine wpAny_one 15 (by kernel_rfl) rfl ?_
  intro K hK
  go_simp
  refine hK _ _ ?_
  clear hK K
  refine wpAny_done (by kernel_rfl) ?_ _
  go_wp2_with fail
  refine R3.wp_region_lit 13 1 2 (fun _ b => .slice (some ⟨b, 0, none⟩) 1 1) (fun _ => .cells #[.int .i64 o1.x, .int .i64 o1.y, .int .i64 o1.w, .int .i64 o1.h] 29) [54] (by kernel_rfl) (by kernel_rfl) rfl ?_ rfl ?_
  · intro k hk
    have hc : k = 0 := by omega
    subst hc; rfl
  apply Exists.intro
  refine ⟨fun bs ne => ?_, ?_, ?_⟩
  · obtain ⟨A, B⟩ := HB.out
    have Z := HZ1.out.1
    have d0 := fun t : Gb X1 bs => (A.below (Z.trans (t.below.mono Z.size))).1
    have d1 := fun t : Gb X1 bs => (A.below (Z.trans (t.below.mono Z.size))).2.1
    have d2 := fun t : Gb X1 bs => (A.below (Z.trans (t.below.mono Z.size))).2.2.1
    have d3 := fun t : Gb X1 bs => (A.below (Z.trans (t.below.mono Z.size))).2.2.2
    have e0 := fun t : Gb X1 bs => (B.below (Z.trans (t.below.mono Z.size))).1
    have e1 := fun t : Gb X1 bs => (B.below (Z.trans (t.below.mono Z.size))).2.1
    have e2 := fun t : Gb X1 bs => (B.below (Z.trans (t.below.mono Z.size))).2.2.1
    have e3 := fun t : Gb X1 bs => (B.below (Z.trans (t.below.mono Z.size))).2.2.2
    clear A B Z
    simp only [List.take_succ_cons, List.take_zero]
    repeat (go_big_quiet_step (first
      | (go_at_call 51; exact gb_call (hBm.out _))
      | (go_at_call 48; exact gb_call (hF1.out _))))
    exact wpQuiet_nil rfl
  · intro i h1 h2
    have hc : i = 13 := by omega
    subst hc
    exact ⟨_, rfl, rfl, fun _ => by kernel_rfl⟩
  intro bl wr1 hb hlo _
  obtain ⟨q1, q2⟩ := hlo 13 (by omega) (by omega)
  simp only [R3.layL]
  generalize bl 13 = g1 at *
  clear hlo
  obtain ⟨Z, R⟩ := HZ1.out
  replace R := own_below R hb
  replace Z := Z.trans (hb.mono Z.size)
  obtain ⟨c1, _, _⟩ := heap_cells q2
  have zs := Z.size
  have HW1 : Hid (Below X0.heap.size X0 wr1 ∧ wr1.ownsRow X0.heap.size 29 4 v1 1 (flat [o0]) ∧ X0.heap.size ≤ wr1.heap.size ∧ ∀ o, wr1.cell? ⟨g1, o, none⟩ = (#[.int .i64 o1.x, .int .i64 o1.y, .int .i64 o1.w, .int .i64 o1.h] : Array Value)[o]?) := ⟨Z, R, zs, c1⟩
  clear hb q1 q2 Z R c1 zs HZ1
  refine wpAny_one 14 (by kernel_rfl) rfl ?_
  intro K hK
  obtain ⟨Z, R, zs, c1⟩ := HW1.out
  refine step_append_lies wr1 (by rfl) _ _ 43 (by rfl) X0.heap.size 29 i0 (.agg #[.int .i64 0, .int .i64 0, .int .i64 0, .int .i64 0]) 4 32 Try.underlying43 hi hz0 hz1 hz2 rfl (by decide) v1 1 (flat [o0]) (by rfl) R ⟨g1, 0, none⟩ 1 1 [.int .i64 o1.x, .int .i64 o1.y, .int .i64 o1.w, .int .i64 o1.h] (by rfl) rfl ?_ ?_ (by decide) (by decide) (by decide) zs wr1.heap.size rfl ?_
  · intro j u hj
    have hj4 : j < 4 := by
      have := (List.getElem?_eq_some_iff.1 hj).1
      simpa using this
    rw [add_at g1 j, c1 j]
    simpa using hj
  · intro u hu
    simp at hu
    rcases hu with rfl | rfl | rfl | rfl <;> rfl
  intro h1 cap1 X2 hown hgrow _ _
  have HZ2 : Hid (Below X0.heap.size X0 X2 ∧ X2.ownsRow X0.heap.size 29 4 (.slice (some ⟨h1, 0, none⟩) 2 cap1) 2 (flat [o0, o1])) := ⟨Z.grown hgrow zs (fun b hb => (R.lt b hb).1), hown⟩
  clear Z R zs c1 hown hgrow
  generalize hvv : Value.slice (some ⟨h1, 0, none⟩) (1 + 1) cap1 = v2 at *
  refine hK _ _ ?_
  clear hK K
  refine wpAny_one 15 (by kernel_rfl) rfl ?_
  intro K hK
  go_simp
  refine hK _ _ ?_
  clear hK K
  refine wpAny_done (by kernel_rfl) ?_ _
  go_wp2_with fail
  refine R3.wp_region_lit 11 1 2 (fun _ b => .slice (some ⟨b, 0, none⟩) 1 1) (fun _ => .cells #[.int .i64 o2.x, .int .i64 o2.y, .int .i64 o2.w, .int .i64 o2.h] 29) [67] (by kernel_rfl) (by kernel_rfl) rfl ?_ rfl ?_
  · intro k hk
    have hc : k = 0 := by omega
    subst hc; rfl
  apply Exists.intro
  refine ⟨fun bs ne => ?_, ?_, ?_⟩
  · obtain ⟨A, B⟩ := HB.out
    have Z := HZ2.out.1
    have d0 := fun t : Gb X2 bs => (A.below (Z.trans (t.below.mono Z.size))).1
    have d1 := fun t : Gb X2 bs => (A.below (Z.trans (t.below.mono Z.size))).2.1
    have d2 := fun t : Gb X2 bs => (A.below (Z.trans (t.below.mono Z.size))).2.2.1
    have d3 := fun t : Gb X2 bs => (A.below (Z.trans (t.below.mono Z.size))).2.2.2
    have e0 := fun t : Gb X2 bs => (B.below (Z.trans (t.below.mono Z.size))).1
    have e1 := fun t : Gb X2 bs => (B.below (Z.trans (t.below.mono Z.size))).2.1
    have e2 := fun t : Gb X2 bs => (B.below (Z.trans (t.below.mono Z.size))).2.2.1
    have e3 := fun t : Gb X2 bs => (B.below (Z.trans (t.below.mono Z.size))).2.2.2
    clear A B Z
    simp only [List.take_succ_cons, List.take_zero]
    repeat (go_big_quiet_step (first
      | (go_at_call_of 50 (Value.agg #[.int .i64 mx, .int .i64 my, .int .i64 mw, .int .i64 mh]); exact gb_call (hRm.out _))
      | (go_at_call_of 50 (Value.agg #[.int .i64 ax, .int .i64 ay, .int .i64 aw, .int .i64 ah]); exact gb_call (hRa.out _))
      | (go_at_call 51; exact gb_call (hBm.out _))
      | (go_at_call 48; exact gb_call (hF2.out _))))
    exact wpQuiet_nil rfl
  · intro i h1 h2
    have hc : i = 11 := by omega
    subst hc
    exact ⟨_, rfl, rfl, fun _ => by kernel_rfl⟩
  intro bl wr2 hb hlo _
  obtain ⟨q1, q2⟩ := hlo 11 (by omega) (by omega)
  simp only [R3.layL]
  generalize bl 11 = g2 at *
  clear hlo
  obtain ⟨Z, R⟩ := HZ2.out
  replace R := own_below R hb
  replace Z := Z.trans (hb.mono Z.size)
  obtain ⟨c1, _, _⟩ := heap_cells q2
  have zs := Z.size
  have HW2 : Hid (Below X0.heap.size X0 wr2 ∧ wr2.ownsRow X0.heap.size 29 4 v2 2 (flat [o0, o1]) ∧ X0.heap.size ≤ wr2.heap.size ∧ ∀ o, wr2.cell? ⟨g2, o, none⟩ = (#[.int .i64 o2.x, .int .i64 o2.y, .int .i64 o2.w, .int .i64 o2.h] : Array Value)[o]?) := ⟨Z, R, zs, c1⟩
  clear hb q1 q2 Z R c1 zs HZ2
  refine wpAny_one 12 (by kernel_rfl) rfl ?_
  intro K hK
  obtain ⟨Z, R, zs, c1⟩ := HW2.out
  refine step_append_lies wr2 (by rfl) _ _ 43 (by rfl) X0.heap.size 29 i0 (.agg #[.int .i64 0, .int .i64 0, .int .i64 0, .int .i64 0]) 4 32 Try.underlying43 hi hz0 hz1 hz2 rfl (by decide) v2 2 (flat [o0, o1]) (by rfl) R ⟨g2, 0, none⟩ 1 1 [.int .i64 o2.x, .int .i64 o2.y, .int .i64 o2.w, .int .i64 o2.h] (by rfl) rfl ?_ ?_ (by decide) (by decide) (by decide) zs wr2.heap.size rfl ?_
  · intro j u hj
    have hj4 : j < 4 := by
      have := (List.getElem?_eq_some_iff.1 hj).1
      simpa using this
    rw [add_at g2 j, c1 j]
    simpa using hj
  · intro u hu
    simp at hu
    rcases hu with rfl | rfl | rfl | rfl <;> rfl
  intro h2 cap2 X3 hown hgrow _ _
  have HZ3 : Hid (Below X0.heap.size X0 X3 ∧ X3.ownsRow X0.heap.size 29 4 (.slice (some ⟨h2, 0, none⟩) 3 cap2) 3 (flat [o0, o1, o2])) := ⟨Z.grown hgrow zs (fun b hb => (R.lt b hb).1), hown⟩
  clear Z R zs c1 hown hgrow
  generalize hvv : Value.slice (some ⟨h2, 0, none⟩) (2 + 1) cap2 = v3 at *
  refine hK _ _ ?_
  clear hK K
  refine wpAny_one 13 (by kernel_rfl) rfl ?_
  intro K hK
  go_simp
  refine hK _ _ ?_
  clear hK K
  refine wpAny_done (by kernel_rfl) ?_ _
  go_wp2_with fail
  refine R3.wp_region_lit 11 1 2 (fun _ b => .slice (some ⟨b, 0, none⟩) 1 1) (fun _ => .cells #[.int .i64 o3.x, .int .i64 o3.y, .int .i64 o3.w, .int .i64 o3.h] 29) [80] (by kernel_rfl) (by kernel_rfl) rfl ?_ rfl ?_
  · intro k hk
    have hc : k = 0 := by omega
    subst hc; rfl
  apply Exists.intro
  refine ⟨fun bs ne => ?_, ?_, ?_⟩
  · obtain ⟨A, B⟩ := HB.out
    have Z := HZ3.out.1
    have d0 := fun t : Gb X3 bs => (A.below (Z.trans (t.below.mono Z.size))).1
    have d1 := fun t : Gb X3 bs => (A.below (Z.trans (t.below.mono Z.size))).2.1
    have d2 := fun t : Gb X3 bs => (A.below (Z.trans (t.below.mono Z.size))).2.2.1
    have d3 := fun t : Gb X3 bs => (A.below (Z.trans (t.below.mono Z.size))).2.2.2
    have e0 := fun t : Gb X3 bs => (B.below (Z.trans (t.below.mono Z.size))).1
    have e1 := fun t : Gb X3 bs => (B.below (Z.trans (t.below.mono Z.size))).2.1
    have e2 := fun t : Gb X3 bs => (B.below (Z.trans (t.below.mono Z.size))).2.2.1
    have e3 := fun t : Gb X3 bs => (B.below (Z.trans (t.below.mono Z.size))).2.2.2
    clear A B Z
    simp only [List.take_succ_cons, List.take_zero]
    repeat (go_big_quiet_step (first
      | (go_at_call_of 51 (Value.agg #[.int .i64 mx, .int .i64 my, .int .i64 mw, .int .i64 mh]); exact gb_call (hBm.out _))
      | (go_at_call 50; exact gb_call (hRa.out _))
      | (go_at_call_of 51 (Value.agg #[.int .i64 ax, .int .i64 ay, .int .i64 aw, .int .i64 ah]); exact gb_call (hBa.out _))
      | (go_at_call 48; exact gb_call (hF3.out _))))
    exact wpQuiet_nil rfl
  · intro i h1 h2
    have hc : i = 11 := by omega
    subst hc
    exact ⟨_, rfl, rfl, fun _ => by kernel_rfl⟩
  intro bl wr3 hb hlo _
  obtain ⟨q1, q2⟩ := hlo 11 (by omega) (by omega)
  simp only [R3.layL]
  generalize bl 11 = g3 at *
  clear hlo
  obtain ⟨Z, R⟩ := HZ3.out
  replace R := own_below R hb
  replace Z := Z.trans (hb.mono Z.size)
  obtain ⟨c1, _, _⟩ := heap_cells q2
  have zs := Z.size
  have HW3 : Hid (Below X0.heap.size X0 wr3 ∧ wr3.ownsRow X0.heap.size 29 4 v3 3 (flat [o0, o1, o2]) ∧ X0.heap.size ≤ wr3.heap.size ∧ ∀ o, wr3.cell? ⟨g3, o, none⟩ = (#[.int .i64 o3.x, .int .i64 o3.y, .int .i64 o3.w, .int .i64 o3.h] : Array Value)[o]?) := ⟨Z, R, zs, c1⟩
  clear hb q1 q2 Z R c1 zs HZ3
  refine wpAny_one 12 (by kernel_rfl) rfl ?_
  intro K hK
  obtain ⟨Z, R, zs, c1⟩ := HW3.out
  refine step_append_lies wr3 (by rfl) _ _ 43 (by rfl) X0.heap.size 29 i0 (.agg #[.int .i64 0, .int .i64 0, .int .i64 0, .int .i64 0]) 4 32 Try.underlying43 hi hz0 hz1 hz2 rfl (by decide) v3 3 (flat [o0, o1, o2]) (by rfl) R ⟨g3, 0, none⟩ 1 1 [.int .i64 o3.x, .int .i64 o3.y, .int .i64 o3.w, .int .i64 o3.h] (by rfl) rfl ?_ ?_ (by decide) (by decide) (by decide) zs wr3.heap.size rfl ?_
  · intro j u hj
    have hj4 : j < 4 := by
      have := (List.getElem?_eq_some_iff.1 hj).1
      simpa using this
    rw [add_at g3 j, c1 j]
    simpa using hj
  · intro u hu
    simp at hu
    rcases hu with rfl | rfl | rfl | rfl <;> rfl
  intro h3 cap3 X4 hown hgrow _ _
  have HZ4 : Hid (Below X0.heap.size X0 X4 ∧ X4.ownsRow X0.heap.size 29 4 (.slice (some ⟨h3, 0, none⟩) 4 cap3) 4 (flat [o0, o1, o2, o3])) := ⟨Z.grown hgrow zs (fun b hb => (R.lt b hb).1), hown⟩
  clear Z R zs c1 hown hgrow
  generalize hvv : Value.slice (some ⟨h3, 0, none⟩) (3 + 1) cap3 = v4 at *
  refine hK _ _ ?_
  clear hK K
  refine wpAny_one 13 (by kernel_rfl) rfl ?_
  intro K hK
  go_simp
  refine hK _ _ ?_
  clear hK K
  refine wpAny_done (by kernel_rfl) ?_ _
  subst hvv
  go_wp2_with fail
  go_loopw [9, 10] (fun v i wr => ∃ k : Nat, k ≤ 4 ∧ i = .int .i64 k ∧ wr.ownsRow X4.heap.size 29 4 v (got o0 o1 o2 o3 k).length (flat (got o0 o1 o2 o3 k)) ∧ Below X4.heap.size X4 wr) (fun _ i _ => 4 - (intOf i).toNat)
  case atStart => exact ⟨0, Nat.zero_le _, rfl, World.ownsRow_nil _ _ _ _, Below.refl _ _⟩
  case round =>
    obtain ⟨k, hk, rfl, hown, hw⟩ := hrel
    obtain ⟨Z, R⟩ := HZ4.out
    have hL := HL.out
    have gl := (R.lt h3 rfl).2
    have hc : ∀ (W : World) (j : Nat), Below X4.heap.size X4 W → j < 16 → W.cell? ⟨h3, j, none⟩ = (flat [o0, o1, o2, o3])[j]? := fun W j hW hj => by
      rw [hW.cell (p := ⟨h3, j, none⟩) gl]
      exact R.cellAt j hj
    have HC := hc
    have HH : Hid (∀ (W : World) (j : Nat), Below X4.heap.size X4 W → j < 16 → W.cell? ⟨h3, j, none⟩ = (flat [o0, o1, o2, o3])[j]?) := HC
    have HE : Hid (Below w.heap.size w X4) := hL.trans (Z.mono hL.size)
    clear HC hc Z R hL gl
    have kk : k = 0 ∨ k = 1 ∨ k = 2 ∨ k = 3 ∨ k = 4 := by omega
    rcases kk with rfl | rfl | rfl | rfl | rfl
    · cases hkp : keepB o0
      · have hQ : Hid (∀ w, Calls Try.prog 23 #[.agg #[.int .i64 o0.x, .int .i64 o0.y, .int .i64 o0.w, .int .i64 o0.h]] w fun e w' => e = .returned (.bool true) ∧ Below w.heap.size w w') := fun w => by
          have := hQ0.out w
          rwa [hkp] at this
        have HK : Hid (keepB o0 = false) := hkp
        clear hkp
        have c0 : wr.cell? ⟨h3, 0, none⟩ = some (.int .i64 o0.x) := HH.out wr 0 hw (by omega)
        have c1 : wr.cell? ⟨h3, 1, none⟩ = some (.int .i64 o0.y) := HH.out wr 1 hw (by omega)
        have c2 : wr.cell? ⟨h3, 2, none⟩ = some (.int .i64 o0.w) := HH.out wr 2 hw (by omega)
        have c3 : wr.cell? ⟨h3, 3, none⟩ = some (.int .i64 o0.h) := HH.out wr 3 hw (by omega)
        go_wp2_with fail
        clear c0 c1 c2 c3
        refine (hQ.out _).mono ?_
        rintro e wn ⟨rfl, hb⟩
        replace hown := own_below hown hb
        replace hw := hw.trans (hb.mono hw.size)
        clear hb hQ
        go_wp2
        go_roundw
        case rel => (repeat apply Exists.intro); exact ⟨⟨1, by omega, rfl, by rw [got_n0 _ _ _ _ HK.out]; exact hown, hw⟩, rfl⟩
        case measure => simp [intOf]
      · have hQ : Hid (∀ w, Calls Try.prog 23 #[.agg #[.int .i64 o0.x, .int .i64 o0.y, .int .i64 o0.w, .int .i64 o0.h]] w fun e w' => e = .returned (.bool false) ∧ Below w.heap.size w w') := fun w => by
          have := hQ0.out w
          rwa [hkp] at this
        have HK : Hid (keepB o0 = true) := hkp
        clear hkp
        have c0 : wr.cell? ⟨h3, 0, none⟩ = some (.int .i64 o0.x) := HH.out wr 0 hw (by omega)
        have c1 : wr.cell? ⟨h3, 1, none⟩ = some (.int .i64 o0.y) := HH.out wr 1 hw (by omega)
        have c2 : wr.cell? ⟨h3, 2, none⟩ = some (.int .i64 o0.w) := HH.out wr 2 hw (by omega)
        have c3 : wr.cell? ⟨h3, 3, none⟩ = some (.int .i64 o0.h) := HH.out wr 3 hw (by omega)
        go_wp2_with fail
        clear c0 c1 c2 c3
        refine (hQ.out _).mono ?_
        rintro e wn ⟨rfl, hb⟩
        replace hown := own_below hown hb
        replace hw := hw.trans (hb.mono hw.size)
        clear hb hQ
        have c0 : wn.cell? ⟨h3, 0, none⟩ = some (.int .i64 o0.x) := HH.out wn 0 hw (by omega)
        have c1 : wn.cell? ⟨h3, 1, none⟩ = some (.int .i64 o0.y) := HH.out wn 1 hw (by omega)
        have c2 : wn.cell? ⟨h3, 2, none⟩ = some (.int .i64 o0.w) := HH.out wn 2 hw (by omega)
        have c3 : wn.cell? ⟨h3, 3, none⟩ = some (.int .i64 o0.h) := HH.out wn 3 hw (by omega)
        have hs := hw.size
        go_wp2_with (at_builtin; refine wpList_append_own _ rfl _ _ 43 rfl X4.heap.size 29 i0 (.agg #[.int .i64 0, .int .i64 0, .int .i64 0, .int .i64 0]) 4 32 Try.underlying43 hi hz0 hz1 hz2 rfl (by decide) _ _ _ rfl (hown.alloc _) ⟨wn.heap.size, 0, none⟩ 1 1 [.int .i64 o0.x, .int .i64 o0.y, .int .i64 o0.w, .int .i64 o0.h] rfl rfl ?c1 ?c2 ?c3 ?c4 ?c5 ?_)
        case c1 => exact cell_four _ _ _ _ _ _ _ rfl
        case c2 => intro u hu; simp at hu; rcases hu with rfl | rfl | rfl | rfl <;> rfl
        case c3 => have := got_le o0 o1 o2 o3 0; unfold maxLen; omega
        case c4 => have := got_le o0 o1 o2 o3 0; omega
        case c5 => simp; omega
        intro v' w1' hown' hgrow _
        have hn := got_y0 o0 o1 o2 o3 HK.out
        have R : w1'.ownsRow X4.heap.size 29 4 v' (got o0 o1 o2 o3 1).length (flat (got o0 o1 o2 o3 1)) := by rw [hn, List.length_append, flat_append, flat_one]; exact hown'
        have R2 : Below X4.heap.size X4 w1' := (hw.alloc hs _).grown hgrow (by simp; omega) (fun b hb => (hown.lt b hb).1)
        clear hown' hgrow hown hn hw hs c0 c1 c2 c3
        go_wp2
        go_roundw
        case rel => (repeat apply Exists.intro); exact ⟨⟨1, by omega, rfl, R, R2⟩, rfl⟩
        case measure => simp [intOf]
    · cases hkp : keepB o1
      · have hQ : Hid (∀ w, Calls Try.prog 23 #[.agg #[.int .i64 o1.x, .int .i64 o1.y, .int .i64 o1.w, .int .i64 o1.h]] w fun e w' => e = .returned (.bool true) ∧ Below w.heap.size w w') := fun w => by
          have := hQ1.out w
          rwa [hkp] at this
        have HK : Hid (keepB o1 = false) := hkp
        clear hkp
        have c0 : wr.cell? ⟨h3, 4, none⟩ = some (.int .i64 o1.x) := HH.out wr 4 hw (by omega)
        have c1 : wr.cell? ⟨h3, 5, none⟩ = some (.int .i64 o1.y) := HH.out wr 5 hw (by omega)
        have c2 : wr.cell? ⟨h3, 6, none⟩ = some (.int .i64 o1.w) := HH.out wr 6 hw (by omega)
        have c3 : wr.cell? ⟨h3, 7, none⟩ = some (.int .i64 o1.h) := HH.out wr 7 hw (by omega)
        go_wp2_with fail
        clear c0 c1 c2 c3
        refine (hQ.out _).mono ?_
        rintro e wn ⟨rfl, hb⟩
        replace hown := own_below hown hb
        replace hw := hw.trans (hb.mono hw.size)
        clear hb hQ
        go_wp2
        go_roundw
        case rel => (repeat apply Exists.intro); exact ⟨⟨2, by omega, rfl, by rw [got_n1 _ _ _ _ HK.out]; exact hown, hw⟩, rfl⟩
        case measure => simp [intOf]
      · have hQ : Hid (∀ w, Calls Try.prog 23 #[.agg #[.int .i64 o1.x, .int .i64 o1.y, .int .i64 o1.w, .int .i64 o1.h]] w fun e w' => e = .returned (.bool false) ∧ Below w.heap.size w w') := fun w => by
          have := hQ1.out w
          rwa [hkp] at this
        have HK : Hid (keepB o1 = true) := hkp
        clear hkp
        have c0 : wr.cell? ⟨h3, 4, none⟩ = some (.int .i64 o1.x) := HH.out wr 4 hw (by omega)
        have c1 : wr.cell? ⟨h3, 5, none⟩ = some (.int .i64 o1.y) := HH.out wr 5 hw (by omega)
        have c2 : wr.cell? ⟨h3, 6, none⟩ = some (.int .i64 o1.w) := HH.out wr 6 hw (by omega)
        have c3 : wr.cell? ⟨h3, 7, none⟩ = some (.int .i64 o1.h) := HH.out wr 7 hw (by omega)
        go_wp2_with fail
        clear c0 c1 c2 c3
        refine (hQ.out _).mono ?_
        rintro e wn ⟨rfl, hb⟩
        replace hown := own_below hown hb
        replace hw := hw.trans (hb.mono hw.size)
        clear hb hQ
        have c0 : wn.cell? ⟨h3, 4, none⟩ = some (.int .i64 o1.x) := HH.out wn 4 hw (by omega)
        have c1 : wn.cell? ⟨h3, 5, none⟩ = some (.int .i64 o1.y) := HH.out wn 5 hw (by omega)
        have c2 : wn.cell? ⟨h3, 6, none⟩ = some (.int .i64 o1.w) := HH.out wn 6 hw (by omega)
        have c3 : wn.cell? ⟨h3, 7, none⟩ = some (.int .i64 o1.h) := HH.out wn 7 hw (by omega)
        have hs := hw.size
        go_wp2_with (at_builtin; refine wpList_append_own _ rfl _ _ 43 rfl X4.heap.size 29 i0 (.agg #[.int .i64 0, .int .i64 0, .int .i64 0, .int .i64 0]) 4 32 Try.underlying43 hi hz0 hz1 hz2 rfl (by decide) _ _ _ rfl (hown.alloc _) ⟨wn.heap.size, 0, none⟩ 1 1 [.int .i64 o1.x, .int .i64 o1.y, .int .i64 o1.w, .int .i64 o1.h] rfl rfl ?c1 ?c2 ?c3 ?c4 ?c5 ?_)
        case c1 => exact cell_four _ _ _ _ _ _ _ rfl
        case c2 => intro u hu; simp at hu; rcases hu with rfl | rfl | rfl | rfl <;> rfl
        case c3 => have := got_le o0 o1 o2 o3 1; unfold maxLen; omega
        case c4 => have := got_le o0 o1 o2 o3 1; omega
        case c5 => simp; omega
        intro v' w1' hown' hgrow _
        have hn := got_y1 o0 o1 o2 o3 HK.out
        have R : w1'.ownsRow X4.heap.size 29 4 v' (got o0 o1 o2 o3 2).length (flat (got o0 o1 o2 o3 2)) := by rw [hn, List.length_append, flat_append, flat_one]; exact hown'
        have R2 : Below X4.heap.size X4 w1' := (hw.alloc hs _).grown hgrow (by simp; omega) (fun b hb => (hown.lt b hb).1)
        clear hown' hgrow hown hn hw hs c0 c1 c2 c3
        go_wp2
        go_roundw
        case rel => (repeat apply Exists.intro); exact ⟨⟨2, by omega, rfl, R, R2⟩, rfl⟩
        case measure => simp [intOf]
    · cases hkp : keepB o2
      · have hQ : Hid (∀ w, Calls Try.prog 23 #[.agg #[.int .i64 o2.x, .int .i64 o2.y, .int .i64 o2.w, .int .i64 o2.h]] w fun e w' => e = .returned (.bool true) ∧ Below w.heap.size w w') := fun w => by
          have := hQ2.out w
          rwa [hkp] at this
        have HK : Hid (keepB o2 = false) := hkp
        clear hkp
        have c0 : wr.cell? ⟨h3, 8, none⟩ = some (.int .i64 o2.x) := HH.out wr 8 hw (by omega)
        have c1 : wr.cell? ⟨h3, 9, none⟩ = some (.int .i64 o2.y) := HH.out wr 9 hw (by omega)
        have c2 : wr.cell? ⟨h3, 10, none⟩ = some (.int .i64 o2.w) := HH.out wr 10 hw (by omega)
        have c3 : wr.cell? ⟨h3, 11, none⟩ = some (.int .i64 o2.h) := HH.out wr 11 hw (by omega)
        go_wp2_with fail
        clear c0 c1 c2 c3
        refine (hQ.out _).mono ?_
        rintro e wn ⟨rfl, hb⟩
        replace hown := own_below hown hb
        replace hw := hw.trans (hb.mono hw.size)
        clear hb hQ
        go_wp2
        go_roundw
        case rel => (repeat apply Exists.intro); exact ⟨⟨3, by omega, rfl, by rw [got_n2 _ _ _ _ HK.out]; exact hown, hw⟩, rfl⟩
        case measure => simp [intOf]
      · have hQ : Hid (∀ w, Calls Try.prog 23 #[.agg #[.int .i64 o2.x, .int .i64 o2.y, .int .i64 o2.w, .int .i64 o2.h]] w fun e w' => e = .returned (.bool false) ∧ Below w.heap.size w w') := fun w => by
          have := hQ2.out w
          rwa [hkp] at this
        have HK : Hid (keepB o2 = true) := hkp
        clear hkp
        have c0 : wr.cell? ⟨h3, 8, none⟩ = some (.int .i64 o2.x) := HH.out wr 8 hw (by omega)
        have c1 : wr.cell? ⟨h3, 9, none⟩ = some (.int .i64 o2.y) := HH.out wr 9 hw (by omega)
        have c2 : wr.cell? ⟨h3, 10, none⟩ = some (.int .i64 o2.w) := HH.out wr 10 hw (by omega)
        have c3 : wr.cell? ⟨h3, 11, none⟩ = some (.int .i64 o2.h) := HH.out wr 11 hw (by omega)
        go_wp2_with fail
        clear c0 c1 c2 c3
        refine (hQ.out _).mono ?_
        rintro e wn ⟨rfl, hb⟩
        replace hown := own_below hown hb
        replace hw := hw.trans (hb.mono hw.size)
        clear hb hQ
        have c0 : wn.cell? ⟨h3, 8, none⟩ = some (.int .i64 o2.x) := HH.out wn 8 hw (by omega)
        have c1 : wn.cell? ⟨h3, 9, none⟩ = some (.int .i64 o2.y) := HH.out wn 9 hw (by omega)
        have c2 : wn.cell? ⟨h3, 10, none⟩ = some (.int .i64 o2.w) := HH.out wn 10 hw (by omega)
        have c3 : wn.cell? ⟨h3, 11, none⟩ = some (.int .i64 o2.h) := HH.out wn 11 hw (by omega)
        have hs := hw.size
        go_wp2_with (at_builtin; refine wpList_append_own _ rfl _ _ 43 rfl X4.heap.size 29 i0 (.agg #[.int .i64 0, .int .i64 0, .int .i64 0, .int .i64 0]) 4 32 Try.underlying43 hi hz0 hz1 hz2 rfl (by decide) _ _ _ rfl (hown.alloc _) ⟨wn.heap.size, 0, none⟩ 1 1 [.int .i64 o2.x, .int .i64 o2.y, .int .i64 o2.w, .int .i64 o2.h] rfl rfl ?c1 ?c2 ?c3 ?c4 ?c5 ?_)
        case c1 => exact cell_four _ _ _ _ _ _ _ rfl
        case c2 => intro u hu; simp at hu; rcases hu with rfl | rfl | rfl | rfl <;> rfl
        case c3 => have := got_le o0 o1 o2 o3 2; unfold maxLen; omega
        case c4 => have := got_le o0 o1 o2 o3 2; omega
        case c5 => simp; omega
        intro v' w1' hown' hgrow _
        have hn := got_y2 o0 o1 o2 o3 HK.out
        have R : w1'.ownsRow X4.heap.size 29 4 v' (got o0 o1 o2 o3 3).length (flat (got o0 o1 o2 o3 3)) := by rw [hn, List.length_append, flat_append, flat_one]; exact hown'
        have R2 : Below X4.heap.size X4 w1' := (hw.alloc hs _).grown hgrow (by simp; omega) (fun b hb => (hown.lt b hb).1)
        clear hown' hgrow hown hn hw hs c0 c1 c2 c3
        go_wp2
        go_roundw
        case rel => (repeat apply Exists.intro); exact ⟨⟨3, by omega, rfl, R, R2⟩, rfl⟩
        case measure => simp [intOf]
    · cases hkp : keepB o3
      · have hQ : Hid (∀ w, Calls Try.prog 23 #[.agg #[.int .i64 o3.x, .int .i64 o3.y, .int .i64 o3.w, .int .i64 o3.h]] w fun e w' => e = .returned (.bool true) ∧ Below w.heap.size w w') := fun w => by
          have := hQ3.out w
          rwa [hkp] at this
        have HK : Hid (keepB o3 = false) := hkp
        clear hkp
        have c0 : wr.cell? ⟨h3, 12, none⟩ = some (.int .i64 o3.x) := HH.out wr 12 hw (by omega)
        have c1 : wr.cell? ⟨h3, 13, none⟩ = some (.int .i64 o3.y) := HH.out wr 13 hw (by omega)
        have c2 : wr.cell? ⟨h3, 14, none⟩ = some (.int .i64 o3.w) := HH.out wr 14 hw (by omega)
        have c3 : wr.cell? ⟨h3, 15, none⟩ = some (.int .i64 o3.h) := HH.out wr 15 hw (by omega)
        go_wp2_with fail
        clear c0 c1 c2 c3
        refine (hQ.out _).mono ?_
        rintro e wn ⟨rfl, hb⟩
        replace hown := own_below hown hb
        replace hw := hw.trans (hb.mono hw.size)
        clear hb hQ
        go_wp2
        go_roundw
        case rel => (repeat apply Exists.intro); exact ⟨⟨4, by omega, rfl, by rw [got_n3 _ _ _ _ HK.out]; exact hown, hw⟩, rfl⟩
        case measure => simp [intOf]
      · have hQ : Hid (∀ w, Calls Try.prog 23 #[.agg #[.int .i64 o3.x, .int .i64 o3.y, .int .i64 o3.w, .int .i64 o3.h]] w fun e w' => e = .returned (.bool false) ∧ Below w.heap.size w w') := fun w => by
          have := hQ3.out w
          rwa [hkp] at this
        have HK : Hid (keepB o3 = true) := hkp
        clear hkp
        have c0 : wr.cell? ⟨h3, 12, none⟩ = some (.int .i64 o3.x) := HH.out wr 12 hw (by omega)
        have c1 : wr.cell? ⟨h3, 13, none⟩ = some (.int .i64 o3.y) := HH.out wr 13 hw (by omega)
        have c2 : wr.cell? ⟨h3, 14, none⟩ = some (.int .i64 o3.w) := HH.out wr 14 hw (by omega)
        have c3 : wr.cell? ⟨h3, 15, none⟩ = some (.int .i64 o3.h) := HH.out wr 15 hw (by omega)
        go_wp2_with fail
        clear c0 c1 c2 c3
        refine (hQ.out _).mono ?_
        rintro e wn ⟨rfl, hb⟩
        replace hown := own_below hown hb
        replace hw := hw.trans (hb.mono hw.size)
        clear hb hQ
        have c0 : wn.cell? ⟨h3, 12, none⟩ = some (.int .i64 o3.x) := HH.out wn 12 hw (by omega)
        have c1 : wn.cell? ⟨h3, 13, none⟩ = some (.int .i64 o3.y) := HH.out wn 13 hw (by omega)
        have c2 : wn.cell? ⟨h3, 14, none⟩ = some (.int .i64 o3.w) := HH.out wn 14 hw (by omega)
        have c3 : wn.cell? ⟨h3, 15, none⟩ = some (.int .i64 o3.h) := HH.out wn 15 hw (by omega)
        have hs := hw.size
        go_wp2_with (at_builtin; refine wpList_append_own _ rfl _ _ 43 rfl X4.heap.size 29 i0 (.agg #[.int .i64 0, .int .i64 0, .int .i64 0, .int .i64 0]) 4 32 Try.underlying43 hi hz0 hz1 hz2 rfl (by decide) _ _ _ rfl (hown.alloc _) ⟨wn.heap.size, 0, none⟩ 1 1 [.int .i64 o3.x, .int .i64 o3.y, .int .i64 o3.w, .int .i64 o3.h] rfl rfl ?c1 ?c2 ?c3 ?c4 ?c5 ?_)
        case c1 => exact cell_four _ _ _ _ _ _ _ rfl
        case c2 => intro u hu; simp at hu; rcases hu with rfl | rfl | rfl | rfl <;> rfl
        case c3 => have := got_le o0 o1 o2 o3 3; unfold maxLen; omega
        case c4 => have := got_le o0 o1 o2 o3 3; omega
        case c5 => simp; omega
        intro v' w1' hown' hgrow _
        have hn := got_y3 o0 o1 o2 o3 HK.out
        have R : w1'.ownsRow X4.heap.size 29 4 v' (got o0 o1 o2 o3 4).length (flat (got o0 o1 o2 o3 4)) := by rw [hn, List.length_append, flat_append, flat_one]; exact hown'
        have R2 : Below X4.heap.size X4 w1' := (hw.alloc hs _).grown hgrow (by simp; omega) (fun b hb => (hown.lt b hb).1)
        clear hown' hgrow hown hn hw hs c0 c1 c2 c3
        go_wp2
        go_roundw
        case rel => (repeat apply Exists.intro); exact ⟨⟨4, by omega, rfl, R, R2⟩, rfl⟩
        case measure => simp [intOf]
    · go_wp2
      go_ret2
      have hE := HE.out
      exact ⟨_, rfl, hown.mono hE.size, hE.trans (hw.mono hE.size)⟩

theorem rless_any (ax ay aw ah bx by' bw bh : Int) (w : World) :
    Calls Try.prog 29 #[.agg #[.int .i64 ax, .int .i64 ay, .int .i64 aw, .int .i64 ah], .agg #[.int .i64 bx, .int .i64 by', .int .i64 bw, .int .i64 bh]] w fun e w' =>
      ∃ v, e = .returned (.tuple #[v, .int .i64 (lesE ax ay aw ah bx by' bw bh)]) ∧ w'.ownsRow w.heap.size 29 4 v (lesL ax ay aw ah bx by' bw bh).length (flat (lesL ax ay aw ah bx by' bw bh)) ∧ Below w.heap.size w w' := by
  cases h0 : (mayB ax ay aw ah && mayB bx by' bw bh)
  · exact rless_err _ _ _ _ _ _ _ _ w h0
  · rw [Bool.and_eq_true] at h0
    cases h3 : emptyB ax ay aw ah
    · cases h4 : eqB (meetR ax ay aw ah bx by' bw bh) 0 0 0 0
      · exact rless_main _ _ _ _ _ _ _ _ _ _ _ _ w h0.1 h0.2 h3 rfl h4
      · exact rless_apart _ _ _ _ _ _ _ _ w h0.1 h0.2 h3 h4
    · exact rless_empty _ _ _ _ _ _ _ _ w h0.1 h0.2 h3

end Go.Proofs.Ytpeppbfkbijdiaa
