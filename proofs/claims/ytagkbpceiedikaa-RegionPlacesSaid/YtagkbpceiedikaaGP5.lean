/-
  The walk of the statement RegionPlaces.
-/
import Derived.Test.YtagkbpceiedikaaGP4
namespace Go.Proofs.Ytagkbpceiedikaa
open Go.RowKit Go.Shelf

theorem ansL_bad {e : Int} (h : ¬ e = 0) (F : List Rc) : ansL e F = [] ∧ ansE e F = e := by
  unfold ansL ansE
  rw [if_neg (fun c => h c.1), if_neg h]
  exact ⟨rfl, rfl⟩
theorem own_zero {w : World} {base : Nat} {e : TypeId} {size : Nat} {v : Value} {xs : List Value} (h : w.ownsRow base e size v 0 xs) : ∃ oa cap, v = .slice oa 0 cap := by
  obtain ⟨oa, cap, e, _⟩ := row_val h
  exact ⟨oa, cap, e⟩

set_option maxRecDepth 20000 in
set_option maxHeartbeats 40000000 in
theorem places_bad (a b : List Rc) (va vb : Value) (px py : Int) (w : World) (ha : LsR w va a) (hb : LsR w vb b) (ia : I64s a) (ib : I64s b) (na : NoNil va) (nb : NoNil vb) (la : a.length ≤ 16) (lb : b.length ≤ 16) (hz : ¬ twoE a b = 0) :
    Calls Try.prog 6 #[va, vb, .agg #[.int .i64 px, .int .i64 py]] w fun e w' => e = .returned (.bool true) ∧ Below w.heap.size w w' := by
  have nO : (formF false a []).length ≤ 1024 := len_le' (n := a.length + ([] : List Rc).length) (by simp; omega) (form_count _ _ _)
  have eO : ansE (lisE a) (formF false a []) = lisE a := by
    unfold ansE
    split
    · next h0 => rw [if_neg (by omega), h0]
    · rfl
  have HJ : Hid (∀ W, Below w.heap.size w W → Calls Try.prog 12 #[va, vb] W fun e w' => ∃ oa cap, e = .returned (.tuple #[.slice oa 0 cap, .int .i64 (twoE a b)]) ∧ Below w.heap.size w w') := fun W h => by
    have q := joinL_any a b va vb W (ha.below h) (hb.below h) ia ib na nb
    rw [(ansL_bad hz _).1, (ansL_bad hz _).2] at q
    refine q.mono fun e w' ⟨v, he, ho, hB⟩ => ?_
    obtain ⟨oa, cap, rfl⟩ := own_zero ho
    exact ⟨oa, cap, he, h.trans (hB.mono h.size)⟩
  have HM : Hid (∀ W, Below w.heap.size w W → Calls Try.prog 21 #[va, vb] W fun e w' => ∃ oa cap, e = .returned (.tuple #[.slice oa 0 cap, .int .i64 (twoE a b)]) ∧ Below w.heap.size w w') := fun W h => by
    have q := meetL_any a b va vb W (ha.below h) (hb.below h) ia ib
    rw [(ansL_bad hz _).1, (ansL_bad hz _).2] at q
    refine q.mono fun e w' ⟨v, he, ho, hB⟩ => ?_
    obtain ⟨oa, cap, rfl⟩ := own_zero ho
    exact ⟨oa, cap, he, h.trans (hB.mono h.size)⟩
  have HL : Hid (∀ W, Below w.heap.size w W → Calls Try.prog 22 #[va, vb] W fun e w' => ∃ oa cap, e = .returned (.tuple #[.slice oa 0 cap, .int .i64 (twoE a b)]) ∧ Below w.heap.size w w') := fun W h => by
    have q := lessL_any a b va vb W (ha.below h) (hb.below h) ia ib
    rw [(ansL_bad hz _).1, (ansL_bad hz _).2] at q
    refine q.mono fun e w' ⟨v, he, ho, hB⟩ => ?_
    obtain ⟨oa, cap, rfl⟩ := own_zero ho
    exact ⟨oa, cap, he, h.trans (hB.mono h.size)⟩
  have HO : Hid (∀ W, Below w.heap.size w W → Calls Try.prog 11 #[va] W fun e w' => ∃ u, e = .returned (.tuple #[u, .int .i64 (lisE a)]) ∧ Below w.heap.size w w') := fun W h => by
    have q := of_any a va W (ha.below h) ia
    rw [eO] at q
    exact q.mono fun e w' ⟨v, he, _, hB⟩ => ⟨v, he, h.trans (hB.mono h.size)⟩
  have cs : (lisE a != 0) = false ∨ ((lisE a != 0) = true ∧ lisE a = twoE a b) := by
    unfold twoE
    by_cases h : lisE a = 0
    · left; simp [h]
    · right; exact ⟨by simp [h], by rw [if_neg h]⟩
  have hz2 : (twoE a b != 0) = true := by simp [hz]
  have H0 : Hid (Below w.heap.size w (w.alloc (.cells #[.int .i64 px, .int .i64 py] 31))) := (Below.refl _ _).alloc (Nat.le_refl _) _
  obtain ⟨oa, ca, rfl, _, _⟩ := id ha
  obtain ⟨ob, cb, rfl, _, _⟩ := id hb
  have qa : ¬ (16 : Int) < a.length := by omega
  have qb : ¬ (16 : Int) < b.length := by omega
  clear ha hb ia ib na nb nO eO la lb hz
  generalize twoE a b = E at *
  generalize lisE a = A at *
  rcases cs with h | ⟨h, rfl⟩
  · obtain rfl : A = 0 := by simpa using h
    clear h
    have hE : ¬ E = 0 := by simpa using hz2
    have hE2 : ¬ 0 = E := fun h => hE h.symm
    go_enter Try.func6, Try.ntmps6
    go_wp2_with fail
    refine (alive_any _).mono ?_
    rintro e w1 ⟨rfl, hb1⟩
    have H1 : Hid (Below w.heap.size w w1) := H0.out.trans (hb1.mono H0.out.size)
    clear hb1
    go_wp2_with fail
    refine (HJ.out _ H1.out).mono ?_
    rintro e w2 ⟨oj, cj, rfl, hb2⟩
    have H2 : Hid (Below w.heap.size w w2) := hb2
    clear hb2
    go_wp2_with fail
    refine (HM.out _ H2.out).mono ?_
    rintro e w3 ⟨om, cm, rfl, hb3⟩
    have H3 : Hid (Below w.heap.size w w3) := hb3
    clear hb3
    go_wp2_with fail
    refine (HL.out _ H3.out).mono ?_
    rintro e w4 ⟨ol, cl, rfl, hb4⟩
    have H4 : Hid (Below w.heap.size w w4) := hb4
    clear hb4
    go_wp2_with fail
    refine (HO.out _ H4.out).mono ?_
    rintro e w5 ⟨uo, rfl, hb5⟩
    have H5 : Hid (Below w.heap.size w w5) := hb5
    clear hb5
    go_wp2
    go_ret
    exact ⟨rfl, H5.out⟩
  · have hE : ¬ A = 0 := by simpa using hz2
    go_enter Try.func6, Try.ntmps6
    go_wp2_with fail
    refine (alive_any _).mono ?_
    rintro e w1 ⟨rfl, hb1⟩
    have H1 : Hid (Below w.heap.size w w1) := H0.out.trans (hb1.mono H0.out.size)
    clear hb1
    go_wp2_with fail
    refine (HJ.out _ H1.out).mono ?_
    rintro e w2 ⟨oj, cj, rfl, hb2⟩
    have H2 : Hid (Below w.heap.size w w2) := hb2
    clear hb2
    go_wp2_with fail
    refine (HM.out _ H2.out).mono ?_
    rintro e w3 ⟨om, cm, rfl, hb3⟩
    have H3 : Hid (Below w.heap.size w w3) := hb3
    clear hb3
    go_wp2_with fail
    refine (HL.out _ H3.out).mono ?_
    rintro e w4 ⟨ol, cl, rfl, hb4⟩
    have H4 : Hid (Below w.heap.size w w4) := hb4
    clear hb4
    go_wp2_with fail
    refine (HO.out _ H4.out).mono ?_
    rintro e w5 ⟨uo, rfl, hb5⟩
    have H5 : Hid (Below w.heap.size w w5) := hb5
    clear hb5
    go_wp2
    go_ret
    exact ⟨rfl, H5.out⟩

set_option maxRecDepth 20000 in
set_option maxHeartbeats 40000000 in
theorem places_walk (a b : List Rc) (va vb : Value) (px py : Int) (w : World) (ha : LsR w va a) (hb : LsR w vb b) (ia : I64s a) (ib : I64s b) (na : NoNil va) (nb : NoNil vb) :
    Calls Try.prog 6 #[va, vb, .agg #[.int .i64 px, .int .i64 py]] w fun e w' => e = .returned (.bool true) ∧ Below w.heap.size w w' := by
  by_cases hl : a.length ≤ 16 ∧ b.length ≤ 16
  · by_cases hz : twoE a b = 0
    · exact places_ok a b va vb px py w ⟨ha, na, ia, (twoE_zero hz).1⟩ ⟨hb, nb, ib, (twoE_zero hz).2⟩ hl.1 hl.2
    · exact places_bad a b va vb px py w ha hb ia ib na nb hl.1 hl.2 hz
  · have cs : ((16 : Int) < a.length) ∨ ((¬ (16 : Int) < a.length) ∧ (16 : Int) < b.length) := by omega
    have H0 : Hid (Below w.heap.size w (w.alloc (.cells #[.int .i64 px, .int .i64 py] 31))) := (Below.refl _ _).alloc (Nat.le_refl _) _
    obtain ⟨oa, ca, rfl, _, _⟩ := id ha
    obtain ⟨ob, cb, rfl, _, _⟩ := id hb
    clear ha hb ia ib na nb hl
    rcases cs with h1 | ⟨h1, h2⟩
    all_goals
      go_enter Try.func6, Try.ntmps6
      go_wp2_with fail
      refine (alive_any _).mono ?_
      rintro e w1 ⟨rfl, hb1⟩
      have H1 : Hid (Below w.heap.size w w1) := H0.out.trans (hb1.mono H0.out.size)
      clear hb1
      go_wp2
      go_ret
      exact ⟨rfl, H1.out⟩

end Go.Proofs.Ytagkbpceiedikaa
