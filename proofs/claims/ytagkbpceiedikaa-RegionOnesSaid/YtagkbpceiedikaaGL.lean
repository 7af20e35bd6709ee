/-
  Contracts of package region: what is wrong with two lists; the form as an answer; Of, Meet, Less.
-/
import Derived.Test.YtagkbpceiedikaaGK
namespace Go.Proofs.Ytagkbpceiedikaa
open Go.RowKit Go.Sort Go.Shelf

/-- What is wrong with two lists. -/
def twoE (a b : List Rc) : Int := if lisE a = 0 then lisE b else lisE a
/-- An answer: the form, if nothing is wrong and it is not too long. -/
def ansL (e : Int) (F : List Rc) : List Rc := if e = 0 ∧ F.length ≤ 1024 then F else []
def ansE (e : Int) (F : List Rc) : Int := if e = 0 then (if 1024 < F.length then 4 else 0) else e
theorem lisE_zero {l : List Rc} (h : lisE l = 0) : l.length ≤ 1024 ∧ ∀ r ∈ l, mayB r.x r.y r.w r.h = true := by
  unfold lisE at h
  split at h
  · cases h
  · split at h
    · next h1 h2 => exact ⟨by omega, List.all_eq_true.1 h2⟩
    · cases h
theorem twoE_zero {a b : List Rc} (h : twoE a b = 0) : lisE a = 0 ∧ lisE b = 0 := by
  unfold twoE at h
  split at h
  · next h1 => exact ⟨h1, h⟩
  · next h1 => exact absurd h h1
theorem lisE_cases (l : List Rc) : lisE l = 0 ∨ lisE l = 4 ∨ lisE l = 5 := by
  unfold lisE
  split
  · exact .inr (.inl rfl)
  · split
    · exact .inl rfl
    · exact .inr (.inr rfl)
theorem twoE_cases (a b : List Rc) : twoE a b = 0 ∨ twoE a b = 4 ∨ twoE a b = 5 := by
  unfold twoE
  split
  · exact lisE_cases b
  · exact lisE_cases a
def I64s (l : List Rc) : Prop := ∀ r ∈ l, I64 r.x ∧ I64 r.y
theorem lsr_nil (w : World) : LsR w (.slice none 0 0) [] := ⟨none, 0, rfl, Nat.le_refl _, fun h => absurd h (Nat.lt_irrefl 0)⟩

set_option maxHeartbeats 1000000 in
theorem both_any (a b : List Rc) (va vb : Value) (w : World) (ha : LsR w va a) (hb : LsR w vb b) (ia : I64s a) (ib : I64s b) :
    Calls Try.prog 45 #[va, vb] w fun e w' => e = .returned (.int .i64 (twoE a b)) ∧ Below w.heap.size w w' := by
  have H1 : Hid (Calls Try.prog 41 #[va] w fun e w' => e = .returned (.int .i64 (lisE a)) ∧ Below w.heap.size w w') := listed_any a va w ha ia
  have H2 : Hid (∀ W, Below w.heap.size w W → Calls Try.prog 41 #[vb] W fun e w' => e = .returned (.int .i64 (lisE b)) ∧ Below W.heap.size W w') := fun W h => listed_any b vb W (hb.below h) ib
  clear ha hb ia ib
  unfold twoE
  generalize lisE b = eb at *
  have hc := lisE_cases a
  generalize lisE a = ea at *
  by_cases h0 : ea = 0
  · subst h0
    rw [if_pos rfl]
    clear hc
    go_enter Try.func45, Try.ntmps45
    go_wp2_with fail
    refine H1.out.mono ?_
    rintro e w1 ⟨rfl, hb1⟩
    have HB : Hid (Below w.heap.size w w1) := hb1
    clear hb1
    go_wp2_with fail
    refine (H2.out _ HB.out).mono ?_
    rintro e w2 ⟨rfl, hb2⟩
    have HB2 : Hid (Below w.heap.size w w2) := HB.out.trans (hb2.mono HB.out.size)
    clear hb2
    go_wp2
    go_ret
    exact ⟨rfl, HB2.out⟩
  · rw [if_neg h0]
    have h1 : (ea != 0) = true := by simp [h0]
    clear hc h0
    go_enter Try.func45, Try.ntmps45
    go_wp2_with fail
    refine H1.out.mono ?_
    rintro e w1 ⟨rfl, hb1⟩
    have HB : Hid (Below w.heap.size w w1) := hb1
    clear hb1
    go_wp2
    go_ret
    exact ⟨rfl, HB.out⟩

set_option maxHeartbeats 1000000 in
theorem told_any (F : List Rc) (u : Value) (base : Nat) (w : World) (hu : w.ownsRow base 35 4 u F.length (flat F)) (hl : F.length ≤ 9223372036854775807) :
    Calls Try.prog 42 #[u] w fun e w' => ∃ v, e = .returned (.tuple #[v, .int .i64 (ansE 0 F)]) ∧ w'.ownsRow base 35 4 v (ansL 0 F).length (flat (ansL 0 F)) ∧ w' = w := by
  obtain ⟨oa, cap, rfl, hc, _⟩ := row_val hu
  have HU : Hid (w.ownsRow base 35 4 (.slice oa F.length cap) F.length (flat F)) := hu
  clear hu
  by_cases h : 1024 < F.length
  · rw [show ansE 0 F = 4 by simp [ansE, h], show ansL 0 F = [] by unfold ansL; rw [if_neg (by omega)]]
    go_enter Try.func42, Try.ntmps42
    go_wp2
    go_ret2
    exact ⟨_, rfl, World.ownsRow_nil _ _ _ _, rfl⟩
  · rw [show ansE 0 F = 0 by simp [ansE, h], show ansL 0 F = F by unfold ansL; rw [if_pos ⟨rfl, by omega⟩]]
    go_enter Try.func42, Try.ntmps42
    go_wp2
    go_ret2
    exact ⟨_, rfl, HU.out, rfl⟩
theorem formF_len (k : Bool) (a b : List Rc) (ha : a.length ≤ 3000) (hb : b.length ≤ 3000) : (formF k a b).length ≤ 108000000 := by
  obtain ⟨h1, h2⟩ := bands_facts k a b ha hb
  have h3 := flatB_len 9000 (bandsR k a b).reverse (fun d hd => (h2 d (by simpa using hd)).1)
  rw [List.length_reverse] at h3
  have : (bandsR k a b).length * 9000 ≤ 12000 * 9000 := Nat.mul_le_mul_right _ h1
  show ((bandsR k a b).reverse.map rcts).flatten.length ≤ _
  omega
/-- An answer of the program: a new list, and what is wrong. -/
def Ans (w : World) (L : List Rc) (E : Int) (e : Ending) (w' : World) : Prop := ∃ v, e = .returned (.tuple #[v, .int .i64 E]) ∧ w'.ownsRow w.heap.size 35 4 v L.length (flat L) ∧ Below w.heap.size w w'

set_option maxHeartbeats 2000000 in
theorem of_any (a : List Rc) (va : Value) (w : World) (ha : LsR w va a) (ia : I64s a) :
    Calls Try.prog 11 #[va] w fun e w' => Ans w (ansL (lisE a) (formF false a [])) (ansE (lisE a) (formF false a [])) e w' := by
  have H1 : Hid (Calls Try.prog 41 #[va] w fun e w' => e = .returned (.int .i64 (lisE a)) ∧ Below w.heap.size w w') := listed_any a va w ha ia
  by_cases h0 : lisE a = 0
  · have H2 : Hid (∀ W, Below w.heap.size w W → Calls Try.prog 43 #[va, (.slice none 0 0), .func (.func 44) #[] #[]] W fun e w' => ∃ u, e = .returned u ∧ w'.ownsRow W.heap.size 35 4 u (formF false a []).length (flat (formF false a [])) ∧ Below W.heap.size W w') := fun W h => form_any false a [] va (.slice none 0 0) W (ha.below h) (lsr_nil W) ia (fun r hr => by cases hr) (by have := (lisE_zero h0).1; omega) (by simp)
    have HT : Hid (∀ u base W, W.ownsRow base 35 4 u (formF false a []).length (flat (formF false a [])) → Calls Try.prog 42 #[u] W fun e w' => ∃ v, e = .returned (.tuple #[v, .int .i64 (ansE 0 (formF false a []))]) ∧ w'.ownsRow base 35 4 v (ansL 0 (formF false a [])).length (flat (ansL 0 (formF false a []))) ∧ w' = W) := fun u base W h => told_any _ u base W h (by have := formF_len false a [] (by have := (lisE_zero h0).1; omega) (by simp); omega)
    rw [h0] at H1 ⊢
    generalize ansL 0 (formF false a []) = L at *
    generalize ansE 0 (formF false a []) = E at *
    generalize formF false a [] = F at *
    clear ha ia h0
    go_enter Try.func11, Try.ntmps11
    go_wp2_with fail
    refine H1.out.mono ?_
    rintro e w1 ⟨rfl, hb1⟩
    have HB : Hid (Below w.heap.size w w1) := hb1
    clear hb1
    go_wp2_with fail
    refine (H2.out _ HB.out).mono ?_
    rintro e w2 ⟨u, rfl, hu, hb2⟩
    have HU : Hid (w2.ownsRow w.heap.size 35 4 u F.length (flat F) ∧ Below w.heap.size w w2) := ⟨row_weaken hu HB.out.size, HB.out.trans (hb2.mono HB.out.size)⟩
    clear hb2 hu
    go_wp2_with fail
    refine (HT.out u _ _ HU.out.1).mono ?_
    rintro e w3 ⟨z, rfl, hz, hw⟩
    have HZ : Hid (w3.ownsRow w.heap.size 35 4 z L.length (flat L) ∧ Below w.heap.size w w3) := ⟨hz, by rw [hw]; exact HU.out.2⟩
    clear hz hw
    go_wp2
    go_ret2
    exact ⟨_, rfl, HZ.out.1, HZ.out.2⟩
  · rw [show ansE (lisE a) (formF false a []) = lisE a by unfold ansE; rw [if_neg h0], show ansL (lisE a) (formF false a []) = [] by unfold ansL; rw [if_neg (fun h => h0 h.1)]]
    generalize lisE a = ea at *
    have h1 : (ea != 0) = true := by simp [h0]
    clear ha ia h0
    go_enter Try.func11, Try.ntmps11
    go_wp2_with fail
    refine H1.out.mono ?_
    rintro e w1 ⟨rfl, hb1⟩
    have HB : Hid (Below w.heap.size w w1) := hb1
    clear hb1
    go_wp2
    go_ret2
    exact ⟨_, rfl, World.ownsRow_nil _ _ _ _, HB.out⟩

set_option maxHeartbeats 2000000 in
theorem meetL_any (a b : List Rc) (va vb : Value) (w : World) (ha : LsR w va a) (hb : LsR w vb b) (ia : I64s a) (ib : I64s b) :
    Calls Try.prog 21 #[va, vb] w fun e w' => Ans w (ansL (twoE a b) (formF true a b)) (ansE (twoE a b) (formF true a b)) e w' := by
  have H1 : Hid (Calls Try.prog 45 #[va, vb] w fun e w' => e = .returned (.int .i64 (twoE a b)) ∧ Below w.heap.size w w') := both_any a b va vb w ha hb ia ib
  by_cases h0 : twoE a b = 0
  · have H2 : Hid (∀ W, Below w.heap.size w W → Calls Try.prog 43 #[va, vb, .func (.func 52) #[] #[]] W fun e w' => ∃ u, e = .returned u ∧ w'.ownsRow W.heap.size 35 4 u (formF true a b).length (flat (formF true a b)) ∧ Below W.heap.size W w') := fun W h => form_any true a b va vb W (ha.below h) (hb.below h) ia ib (by have := (lisE_zero (twoE_zero h0).1).1; omega) (by have := (lisE_zero (twoE_zero h0).2).1; omega)
    have HT : Hid (∀ u base W, W.ownsRow base 35 4 u (formF true a b).length (flat (formF true a b)) → Calls Try.prog 42 #[u] W fun e w' => ∃ v, e = .returned (.tuple #[v, .int .i64 (ansE 0 (formF true a b))]) ∧ w'.ownsRow base 35 4 v (ansL 0 (formF true a b)).length (flat (ansL 0 (formF true a b))) ∧ w' = W) := fun u base W h => told_any _ u base W h (by have := formF_len true a b (by have := (lisE_zero (twoE_zero h0).1).1; omega) (by have := (lisE_zero (twoE_zero h0).2).1; omega); omega)
    rw [h0] at H1 ⊢
    generalize ansL 0 (formF true a b) = L at *
    generalize ansE 0 (formF true a b) = E at *
    generalize formF true a b = F at *
    clear ha hb ia ib h0
    go_enter Try.func21, Try.ntmps21
    go_wp2_with fail
    refine H1.out.mono ?_
    rintro e w1 ⟨rfl, hb1⟩
    have HB : Hid (Below w.heap.size w w1) := hb1
    clear hb1
    go_wp2_with fail
    refine (H2.out _ HB.out).mono ?_
    rintro e w2 ⟨u, rfl, hu, hb2⟩
    have HU : Hid (w2.ownsRow w.heap.size 35 4 u F.length (flat F) ∧ Below w.heap.size w w2) := ⟨row_weaken hu HB.out.size, HB.out.trans (hb2.mono HB.out.size)⟩
    clear hb2 hu
    go_wp2_with fail
    refine (HT.out u _ _ HU.out.1).mono ?_
    rintro e w3 ⟨z, rfl, hz, hw⟩
    have HZ : Hid (w3.ownsRow w.heap.size 35 4 z L.length (flat L) ∧ Below w.heap.size w w3) := ⟨hz, by rw [hw]; exact HU.out.2⟩
    clear hz hw
    go_wp2
    go_ret2
    exact ⟨_, rfl, HZ.out.1, HZ.out.2⟩
  · rw [show ansE (twoE a b) (formF true a b) = twoE a b by unfold ansE; rw [if_neg h0], show ansL (twoE a b) (formF true a b) = [] by unfold ansL; rw [if_neg (fun h => h0 h.1)]]
    generalize twoE a b = ea at *
    have h1 : (ea != 0) = true := by simp [h0]
    clear ha hb ia ib h0
    go_enter Try.func21, Try.ntmps21
    go_wp2_with fail
    refine H1.out.mono ?_
    rintro e w1 ⟨rfl, hb1⟩
    have HB : Hid (Below w.heap.size w w1) := hb1
    clear hb1
    go_wp2
    go_ret2
    exact ⟨_, rfl, World.ownsRow_nil _ _ _ _, HB.out⟩

set_option maxHeartbeats 2000000 in
theorem lessL_any (a b : List Rc) (va vb : Value) (w : World) (ha : LsR w va a) (hb : LsR w vb b) (ia : I64s a) (ib : I64s b) :
    Calls Try.prog 22 #[va, vb] w fun e w' => Ans w (ansL (twoE a b) (formF false a b)) (ansE (twoE a b) (formF false a b)) e w' := by
  have H1 : Hid (Calls Try.prog 45 #[va, vb] w fun e w' => e = .returned (.int .i64 (twoE a b)) ∧ Below w.heap.size w w') := both_any a b va vb w ha hb ia ib
  by_cases h0 : twoE a b = 0
  · have H2 : Hid (∀ W, Below w.heap.size w W → Calls Try.prog 43 #[va, vb, .func (.func 44) #[] #[]] W fun e w' => ∃ u, e = .returned u ∧ w'.ownsRow W.heap.size 35 4 u (formF false a b).length (flat (formF false a b)) ∧ Below W.heap.size W w') := fun W h => form_any false a b va vb W (ha.below h) (hb.below h) ia ib (by have := (lisE_zero (twoE_zero h0).1).1; omega) (by have := (lisE_zero (twoE_zero h0).2).1; omega)
    have HT : Hid (∀ u base W, W.ownsRow base 35 4 u (formF false a b).length (flat (formF false a b)) → Calls Try.prog 42 #[u] W fun e w' => ∃ v, e = .returned (.tuple #[v, .int .i64 (ansE 0 (formF false a b))]) ∧ w'.ownsRow base 35 4 v (ansL 0 (formF false a b)).length (flat (ansL 0 (formF false a b))) ∧ w' = W) := fun u base W h => told_any _ u base W h (by have := formF_len false a b (by have := (lisE_zero (twoE_zero h0).1).1; omega) (by have := (lisE_zero (twoE_zero h0).2).1; omega); omega)
    rw [h0] at H1 ⊢
    generalize ansL 0 (formF false a b) = L at *
    generalize ansE 0 (formF false a b) = E at *
    generalize formF false a b = F at *
    clear ha hb ia ib h0
    go_enter Try.func22, Try.ntmps22
    go_wp2_with fail
    refine H1.out.mono ?_
    rintro e w1 ⟨rfl, hb1⟩
    have HB : Hid (Below w.heap.size w w1) := hb1
    clear hb1
    go_wp2_with fail
    refine (H2.out _ HB.out).mono ?_
    rintro e w2 ⟨u, rfl, hu, hb2⟩
    have HU : Hid (w2.ownsRow w.heap.size 35 4 u F.length (flat F) ∧ Below w.heap.size w w2) := ⟨row_weaken hu HB.out.size, HB.out.trans (hb2.mono HB.out.size)⟩
    clear hb2 hu
    go_wp2_with fail
    refine (HT.out u _ _ HU.out.1).mono ?_
    rintro e w3 ⟨z, rfl, hz, hw⟩
    have HZ : Hid (w3.ownsRow w.heap.size 35 4 z L.length (flat L) ∧ Below w.heap.size w w3) := ⟨hz, by rw [hw]; exact HU.out.2⟩
    clear hz hw
    go_wp2
    go_ret2
    exact ⟨_, rfl, HZ.out.1, HZ.out.2⟩
  · rw [show ansE (twoE a b) (formF false a b) = twoE a b by unfold ansE; rw [if_neg h0], show ansL (twoE a b) (formF false a b) = [] by unfold ansL; rw [if_neg (fun h => h0 h.1)]]
    generalize twoE a b = ea at *
    have h1 : (ea != 0) = true := by simp [h0]
    clear ha hb ia ib h0
    go_enter Try.func22, Try.ntmps22
    go_wp2_with fail
    refine H1.out.mono ?_
    rintro e w1 ⟨rfl, hb1⟩
    have HB : Hid (Below w.heap.size w w1) := hb1
    clear hb1
    go_wp2
    go_ret2
    exact ⟨_, rfl, World.ownsRow_nil _ _ _ _, HB.out⟩

end Go.Proofs.Ytagkbpceiedikaa
