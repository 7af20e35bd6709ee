/-
  The walk of the statement RegionRules.
-/
import Derived.Test.YtiggenjdibmnlaaGZ6
namespace Go.Proofs.Ytiggenjdibmnlaa
open Go.RowKit Go.Sort Go.Shelf

theorem of_err {W : World} {v : Value} {l : List Rc} (h : LsR W v l) (i : I64s l) (hn : l.length ≤ 10) : Calls Try.prog 11 #[v] W fun e w' => ∃ u, e = .returned (.tuple #[u, .int .i64 (lisE l)]) ∧ Below W.heap.size W w' := by
  have q := of_any l v W h i
  have n := (ru_len hn hn hn).1 false
  have e : ansE (lisE l) (formF false l []) = lisE l := by
    unfold ansE
    split
    · next h0 => rw [if_neg (by omega), h0]
    · rfl
  rw [e] at q
  exact q.mono fun _ _ ⟨u, he, _, hb⟩ => ⟨u, he, hb⟩

set_option maxRecDepth 20000 in
set_option maxHeartbeats 40000000 in
theorem rules_walk (a b c : List Rc) (va vb vc : Value) (w : World) (ha : LsR w va a) (hb : LsR w vb b) (hc : LsR w vc c) (ia : I64s a) (ib : I64s b) (ic : I64s c) (na : NoNil va) (nb : NoNil vb) (nc : NoNil vc) :
    Calls Try.prog 7 #[va, vb, vc] w fun e w' => e = .returned (.bool true) ∧ Below w.heap.size w w' := by
  by_cases hl : a.length ≤ 10 ∧ b.length ≤ 10 ∧ c.length ≤ 10
  · obtain ⟨la, lb, lc⟩ := hl
    by_cases hz : lisE a = 0 ∧ lisE b = 0 ∧ lisE c = 0
    · exact rules_ok a b c va vb vc w ⟨ha, na, ia, hz.1⟩ ⟨hb, nb, ib, hz.2.1⟩ ⟨hc, nc, ic, hz.2.2⟩ la lb lc
    · have HA : Hid (∀ W, Below w.heap.size w W → Calls Try.prog 11 #[va] W fun e w' => ∃ u, e = .returned (.tuple #[u, .int .i64 (lisE a)]) ∧ Below w.heap.size w w') := fun W h => (of_err (ha.below h) ia la).mono fun _ _ ⟨u, he, hb⟩ => ⟨u, he, bel_tr h hb⟩
      have HB : Hid (∀ W, Below w.heap.size w W → Calls Try.prog 11 #[vb] W fun e w' => ∃ u, e = .returned (.tuple #[u, .int .i64 (lisE b)]) ∧ Below w.heap.size w w') := fun W h => (of_err (hb.below h) ib lb).mono fun _ _ ⟨u, he, hb⟩ => ⟨u, he, bel_tr h hb⟩
      have HC : Hid (∀ W, Below w.heap.size w W → Calls Try.prog 11 #[vc] W fun e w' => ∃ u, e = .returned (.tuple #[u, .int .i64 (lisE c)]) ∧ Below w.heap.size w w') := fun W h => (of_err (hc.below h) ic lc).mono fun _ _ ⟨u, he, hb⟩ => ⟨u, he, bel_tr h hb⟩
      obtain ⟨oa, ca, rfl, _, _⟩ := id ha
      obtain ⟨ob, cb, rfl, _, _⟩ := id hb
      obtain ⟨oc, cc, rfl, _, _⟩ := id hc
      have qa : ¬ (10 : Int) < a.length := by omega
      have qb : ¬ (10 : Int) < b.length := by omega
      have qc : ¬ (10 : Int) < c.length := by omega
      clear ha hb hc ia ib ic na nb nc la lb lc
      generalize lisE a = E1 at *
      generalize lisE b = E2 at *
      generalize lisE c = E3 at *
      have cs : (E1 != 0) = true ∨ ((E1 != 0) = false ∧ (E2 != 0) = true) ∨ ((E1 != 0) = false ∧ (E2 != 0) = false ∧ (E3 != 0) = true) := by
        by_cases h1 : E1 = 0 <;> by_cases h2 : E2 = 0 <;> by_cases h3 : E3 = 0 <;> simp [h1, h2, h3] at hz ⊢
      clear hz
      rcases cs with h1 | ⟨h1, h2⟩ | ⟨h1, h2, h3⟩
      all_goals
        go_enter Try.func7, Try.ntmps7
        go_wp2_with fail
        refine (alive_any _).mono ?_
        rintro e w1 ⟨rfl, hb1⟩
        have H1 : Hid (Below w.heap.size w w1) := hb1
        clear hb1
        go_wp2_with fail
        refine (HA.out _ H1.out).mono ?_
        rintro e w2 ⟨u1, rfl, hb2⟩
        have H2 : Hid (Below w.heap.size w w2) := hb2
        clear hb2
        go_wp2_with fail
        refine (HB.out _ H2.out).mono ?_
        rintro e w3 ⟨u2, rfl, hb3⟩
        have H3 : Hid (Below w.heap.size w w3) := hb3
        clear hb3
        go_wp2_with fail
        refine (HC.out _ H3.out).mono ?_
        rintro e w4 ⟨u3, rfl, hb4⟩
        have H4 : Hid (Below w.heap.size w w4) := hb4
        clear hb4
        go_wp2
        go_ret
        exact ⟨rfl, H4.out⟩
  · have cs : ((10 : Int) < a.length) ∨ ((¬ (10 : Int) < a.length) ∧ (10 : Int) < b.length) ∨ ((¬ (10 : Int) < a.length) ∧ (¬ (10 : Int) < b.length) ∧ (10 : Int) < c.length) := by omega
    obtain ⟨oa, ca, rfl, _, _⟩ := id ha
    obtain ⟨ob, cb, rfl, _, _⟩ := id hb
    obtain ⟨oc, cc, rfl, _, _⟩ := id hc
    clear ha hb hc ia ib ic na nb nc hl
    rcases cs with h1 | ⟨h1, h2⟩ | ⟨h1, h2, h3⟩
    all_goals
      go_enter Try.func7, Try.ntmps7
      go_wp2_with fail
      refine (alive_any _).mono ?_
      rintro e w1 ⟨rfl, hb1⟩
      go_wp2
      go_ret
      exact ⟨rfl, hb1⟩

end Go.Proofs.Ytiggenjdibmnlaa
