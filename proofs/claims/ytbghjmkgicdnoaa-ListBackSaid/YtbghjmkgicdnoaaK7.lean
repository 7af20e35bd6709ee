/-
  Texts of this claim, one behind the other: what each is about stands ahead of it.
-/
import Derived.Test.YtbghjmkgicdnoaaK6
import Derived.Test.YtbghjmkgicdnoaaK1
import Derived.Deep.QuietTactic
import Derived.BigQuiet
import Derived.Below
/-
  Contracts of package region: what is wrong with two lists; the form as an answer; Of, Meet, Less.
-/
namespace Go.Proofs.Ytbghjmkgicdnoaa
open Go.RowKit Go.Sort Go.Shelf

/-- What is wrong with two lists. -/
def twoE (a b : List Rc) : Int := if lisE a = 0 then lisE b else lisE a
/-- An answer: the form, if nothing is wrong and it is not too long. -/
def ansL (e : Int) (F : List Rc) : List Rc := if e = 0 ∧ F.length ≤ 1024 then F else []
def ansE (e : Int) (F : List Rc) : Int := if e = 0 then (if 1024 < F.length then 4 else 0) else e
theorem lisE_zero {l : List Rc} (h : lisE l = 0) : l.length ≤ 1024 ∧ ∀ r ∈ l, mayB r.x r.y r.w r.h = true := by
  unfold lisE at h
  split at h
  · cases h
  · split at h
    · next h1 h2 => exact ⟨by omega, List.all_eq_true.1 h2⟩
    · cases h
theorem twoE_zero {a b : List Rc} (h : twoE a b = 0) : lisE a = 0 ∧ lisE b = 0 := by
  unfold twoE at h
  split at h
  · next h1 => exact ⟨h1, h⟩
  · next h1 => exact absurd h h1
theorem lisE_cases (l : List Rc) : lisE l = 0 ∨ lisE l = 4 ∨ lisE l = 5 := by
  unfold lisE
  split
  · exact .inr (.inl rfl)
  · split
    · exact .inl rfl
    · exact .inr (.inr rfl)
theorem twoE_cases (a b : List Rc) : twoE a b = 0 ∨ twoE a b = 4 ∨ twoE a b = 5 := by
  unfold twoE
  split
  · exact lisE_cases b
  · exact lisE_cases a
def I64s (l : List Rc) : Prop := ∀ r ∈ l, I64 r.x ∧ I64 r.y
theorem lsr_nil (w : World) : LsR w (.slice none 0 0) [] := ⟨none, 0, rfl, Nat.le_refl _, fun h => absurd h (Nat.lt_irrefl 0)⟩

set_option maxHeartbeats 1000000 in
theorem told_any (F : List Rc) (u : Value) (base : Nat) (w : World) (hu : w.ownsRow base 27 4 u F.length (flat F)) (hl : F.length ≤ 9223372036854775807) :
    Calls Try.prog 58 #[u] w fun e w' => ∃ v, e = .returned (.tuple #[v, .int .i64 (ansE 0 F)]) ∧ w'.ownsRow base 27 4 v (ansL 0 F).length (flat (ansL 0 F)) ∧ w' = w := by
  obtain ⟨oa, cap, rfl, hc, _⟩ := row_val hu
  have HU : Hid (w.ownsRow base 27 4 (.slice oa F.length cap) F.length (flat F)) := hu
  clear hu
  by_cases h : 1024 < F.length
  · rw [show ansE 0 F = 4 by simp [ansE, h], show ansL 0 F = [] by unfold ansL; rw [if_neg (by omega)]]
    go_enter Try.func58, Try.ntmps58
    go_wp2
    go_ret2
    exact ⟨_, rfl, World.ownsRow_nil _ _ _ _, rfl⟩
  · rw [show ansE 0 F = 0 by simp [ansE, h], show ansL 0 F = F by unfold ansL; rw [if_pos ⟨rfl, by omega⟩]]
    go_enter Try.func58, Try.ntmps58
    go_wp2
    go_ret2
    exact ⟨_, rfl, HU.out, rfl⟩
theorem formF_len (k : Bool) (a b : List Rc) (ha : a.length ≤ 3000) (hb : b.length ≤ 3000) : (formF k a b).length ≤ 108000000 := by
  obtain ⟨h1, h2⟩ := bands_facts k a b ha hb
  have h3 := flatB_len 9000 (bandsR k a b).reverse (fun d hd => (h2 d (by simpa using hd)).1)
  rw [List.length_reverse] at h3
  have : (bandsR k a b).length * 9000 ≤ 12000 * 9000 := Nat.mul_le_mul_right _ h1
  show ((bandsR k a b).reverse.map rcts).flatten.length ≤ _
  omega
/-- An answer of the program: a new list, and what is wrong. -/
def Ans (w : World) (L : List Rc) (E : Int) (e : Ending) (w' : World) : Prop := ∃ v, e = .returned (.tuple #[v, .int .i64 E]) ∧ w'.ownsRow w.heap.size 27 4 v L.length (flat L) ∧ Below w.heap.size w w'

set_option maxHeartbeats 2000000 in
theorem of_any (a : List Rc) (va : Value) (w : World) (ha : LsR w va a) (ia : I64s a) :
    Calls Try.prog 36 #[va] w fun e w' => Ans w (ansL (lisE a) (formF false a [])) (ansE (lisE a) (formF false a [])) e w' := by
  have H1 : Hid (Calls Try.prog 52 #[va] w fun e w' => e = .returned (.int .i64 (lisE a)) ∧ Below w.heap.size w w') := listed_any a va w ha ia
  by_cases h0 : lisE a = 0
  · have H2 : Hid (∀ W, Below w.heap.size w W → Calls Try.prog 59 #[va, (.slice none 0 0), .func (.func 60) #[] #[]] W fun e w' => ∃ u, e = .returned u ∧ w'.ownsRow W.heap.size 27 4 u (formF false a []).length (flat (formF false a [])) ∧ Below W.heap.size W w') := fun W h => form_any false a [] va (.slice none 0 0) W (ha.below h) (lsr_nil W) ia (fun r hr => by cases hr) (by have := (lisE_zero h0).1; omega) (by simp)
    have HT : Hid (∀ u base W, W.ownsRow base 27 4 u (formF false a []).length (flat (formF false a [])) → Calls Try.prog 58 #[u] W fun e w' => ∃ v, e = .returned (.tuple #[v, .int .i64 (ansE 0 (formF false a []))]) ∧ w'.ownsRow base 27 4 v (ansL 0 (formF false a [])).length (flat (ansL 0 (formF false a []))) ∧ w' = W) := fun u base W h => told_any _ u base W h (by have := formF_len false a [] (by have := (lisE_zero h0).1; omega) (by simp); omega)
    rw [h0] at H1 ⊢
    generalize ansL 0 (formF false a []) = L at *
    generalize ansE 0 (formF false a []) = E at *
    generalize formF false a [] = F at *
    clear ha ia h0
    go_enter Try.func36, Try.ntmps36
    go_wp2_with fail
    refine H1.out.mono ?_
    rintro e w1 ⟨rfl, hb1⟩
    have HB : Hid (Below w.heap.size w w1) := hb1
    clear hb1
    go_wp2_with fail
    refine (H2.out _ HB.out).mono ?_
    rintro e w2 ⟨u, rfl, hu, hb2⟩
    have HU : Hid (w2.ownsRow w.heap.size 27 4 u F.length (flat F) ∧ Below w.heap.size w w2) := ⟨row_weaken hu HB.out.size, HB.out.trans (hb2.mono HB.out.size)⟩
    clear hb2 hu
    go_wp2_with fail
    refine (HT.out u _ _ HU.out.1).mono ?_
    rintro e w3 ⟨z, rfl, hz, hw⟩
    have HZ : Hid (w3.ownsRow w.heap.size 27 4 z L.length (flat L) ∧ Below w.heap.size w w3) := ⟨hz, by rw [hw]; exact HU.out.2⟩
    clear hz hw
    go_wp2
    go_ret2
    exact ⟨_, rfl, HZ.out.1, HZ.out.2⟩
  · rw [show ansE (lisE a) (formF false a []) = lisE a by unfold ansE; rw [if_neg h0], show ansL (lisE a) (formF false a []) = [] by unfold ansL; rw [if_neg (fun h => h0 h.1)]]
    generalize lisE a = ea at *
    have h1 : (ea != 0) = true := by simp [h0]
    clear ha ia h0
    go_enter Try.func36, Try.ntmps36
    go_wp2_with fail
    refine H1.out.mono ?_
    rintro e w1 ⟨rfl, hb1⟩
    have HB : Hid (Below w.heap.size w w1) := hb1
    clear hb1
    go_wp2
    go_ret2
    exact ⟨_, rfl, World.ownsRow_nil _ _ _ _, HB.out⟩

end Go.Proofs.Ytbghjmkgicdnoaa

/-
  A region that draws its order, whose own operations only read and whose callees leave what was there: one walk. Contracts of the document's answer: its leaves.
-/
namespace Go.Proofs.Ytbghjmkgicdnoaa
open Go.RowKit

/-- A world that has grown out of W: below W's size nothing has turned. -/
structure Gw (W : World) where
  wd : World
  below : Below W.heap.size W wd

theorem wp_region_gw {P : Program} {id : Nat} {Q : Exit → Act → World → Prop} {a : Act} {w : World} {l : List Oper} (hm : P.follows .mixedOrders = true) (hB : Region.lexB .any l.toArray = true)
    (h : wpQuiet P l.toArray (fun w' => ∃ t : Gw w, w' = t.wd) (fun a' => ∀ w', (∃ t : Gw w, w' = t.wd) → Q .normal a' w') l a) : (Code.region id l.toArray true).wp P Q a w :=
  wp_region_quiet (C := fun w' => ∃ t : Gw w, w' = t.wd) hm hB ⟨⟨w.drew, (Below.refl _ _).drew⟩, rfl⟩ (by simpa using h)
theorem gw_call {P : Program} {f : FuncId} {args : Array Value} {W : World} {v : Value} {t : Gw W}
    (h : Calls P f args t.wd fun e w' => e = .returned v ∧ Below t.wd.heap.size t.wd w') : Calls P f args t.wd fun e w'' => e = .returned v ∧ ∃ t' : Gw W, w'' = t'.wd :=
  h.mono fun _ w'' ⟨he, hb⟩ => ⟨he, ⟨⟨w'', t.below.trans (hb.mono t.below.size)⟩, rfl⟩⟩
theorem gw_same {P : Program} {f : FuncId} {args : Array Value} {W : World} {v : Value} {t : Gw W}
    (h : Calls P f args t.wd fun e w' => e = .returned v ∧ w' = t.wd) : Calls P f args t.wd fun e w'' => e = .returned v ∧ ∃ t' : Gw W, w'' = t'.wd :=
  h.mono fun _ _ ⟨he, hw⟩ => ⟨he, ⟨t, hw⟩⟩
theorem gw_ne {B : Nat} {w W : World} (_h : Below B w W) : Nonempty (Gw W) := ⟨⟨W, Below.refl _ _⟩⟩
theorem gw4 {W : World} {b : Nat} {x y n m : Int} (h : At4 W b x y n m) (t : Gw W) : At4 t.wd b x y n m := h.below t.below
theorem gw2 {W : World} {b : Nat} {x y : Int} (h : At2 W b x y) (t : Gw W) : At2 t.wd b x y := h.below t.below

set_option maxHeartbeats 400000 in
theorem rwithin_any (n : Int) (w : World) :
    Calls Try.prog 84 #[.int .i64 n] w fun e w' => e = .returned (.bool (witB n (-16384) 16384)) ∧ w' = w := by
  by_cases c1 : -16384 ≤ n
  · go_enter Try.func84, Try.ntmps84
    go_wp2
    go_ret
    exact ⟨by simp [witB, c1], rfl⟩
  · go_enter Try.func84, Try.ntmps84
    go_wp2
    go_ret
    exact ⟨by simp [witB]; omega, rfl⟩

set_option maxHeartbeats 400000 in
theorem rside_any (n : Int) (w : World) :
    Calls Try.prog 85 #[.int .i64 n] w fun e w' => e = .returned (.bool (witB n 0 32768)) ∧ w' = w := by
  by_cases c1 : 0 ≤ n
  · go_enter Try.func85, Try.ntmps85
    go_wp2
    go_ret
    exact ⟨by simp [witB, c1], rfl⟩
  · go_enter Try.func85, Try.ntmps85
    go_wp2
    go_ret
    exact ⟨by simp [witB]; omega, rfl⟩

set_option maxHeartbeats 400000 in
theorem rspan_any (p n : Int) (w : World) :
    Calls Try.prog 74 #[.int .i64 p, .int .i64 n] w fun e w' => e = .returned (.bool (spanB p n)) ∧ w' = w := by
  cases h1 : witB p (-16384) 16384
  · rw [span_no1 p n h1]
    go_enter Try.func74, Try.ntmps74
    go_wp2_with (go_at_call 84; refine (rwithin_any _ _).mono ?_; rintro e w' ⟨rfl, rfl⟩)
    go_ret
    exact ⟨rfl, rfl⟩
  · cases h2 : witB n 0 32768
    · rw [span_no2 p n h1 h2]
      go_enter Try.func74, Try.ntmps74
      go_wp2_with (first | (go_at_call 84; refine (rwithin_any _ _).mono ?_; rintro e w' ⟨rfl, rfl⟩) | (go_at_call 85; refine (rside_any _ _).mono ?_; rintro e w' ⟨rfl, rfl⟩))
      go_ret
      exact ⟨rfl, rfl⟩
    · rw [span_ref p n h1 h2]
      have b1 := (wit_iff.1 h1).1
      have b2 := (wit_iff.1 h1).2
      have b3 := (wit_iff.1 h2).1
      have b4 := (wit_iff.1 h2).2
      go_enter Try.func74, Try.ntmps74
      go_wp2_with (first | (go_at_call 84; refine (rwithin_any _ _).mono ?_; rintro e w' ⟨rfl, rfl⟩) | (go_at_call 85; refine (rside_any _ _).mono ?_; rintro e w' ⟨rfl, rfl⟩))
      go_ret
      exact ⟨rfl, rfl⟩

set_option maxHeartbeats 400000 in
theorem rmay_any (x y n m : Int) (w : World) :
    Calls Try.prog 47 #[.agg #[.int .i64 x, .int .i64 y, .int .i64 n, .int .i64 m]] w fun e w' => e = .returned (.bool (mayB x y n m)) ∧ Below w.heap.size w w' := by
  cases h1 : spanB x n
  · go_enter Try.func47, Try.ntmps47
    go_wp2_with (go_at_call 74; refine (rspan_any _ _ _).mono ?_; rintro e w' ⟨rfl, rfl⟩)
    go_ret
    exact ⟨by simp [mayB, h1], (Below.refl _ _).alloc (Nat.le_refl _) _⟩
  · go_enter Try.func47, Try.ntmps47
    go_wp2_with (go_at_call 74; refine (rspan_any _ _ _).mono ?_; rintro e w' ⟨rfl, rfl⟩)
    go_ret
    exact ⟨by simp [mayB, h1], (Below.refl _ _).alloc (Nat.le_refl _) _⟩

end Go.Proofs.Ytbghjmkgicdnoaa

/-
  A law for regions that draw their order: first operations that only read or call what leaves old memory alone, and new variables; then stores. One walk of the text serves every order.
-/
namespace Go.Proofs.Ytbghjmkgicdnoaa
open Go.RowKit

/-- A world that has grown out of W and holds these blocks. -/
structure Gb (W : World) (bs : List (Nat × Obj)) where
  wd : World
  below : Below W.heap.size W wd
  held : ∀ p ∈ bs, wd.heap[p.1]? = some p.2

def preds (ops : Array Oper) (i : Nat) : List Nat :=
  match ops[i]? with
  | some o => (o.after.toList.filter fun e => Region.binds .any e).map (·.on)
  | none => []
def dsl (ops : Array Oper) (i : Nat) : Option Tmp := (ops[i]?).bind (·.dst)
def phaseB (ops : Array Oper) (nq na : Nat) : Bool :=
  ((List.range (nq + na)).all fun i => (dsl ops i).isSome && ((List.range i).all fun j => dsl ops j != dsl ops i) && (preds ops i).all fun p => decide (p < i)) &&
  ((List.range nq).all fun i => match ops[i]? with
    | none => false
    | some o => (o.looksAt ops).all fun t => (List.range (nq + na)).all fun j => dsl ops j != some t || (decide (j < i) && (decide (j < nq) && (preds ops i).contains j))) &&
  (((List.range ops.size).drop (nq + na)).all fun k => (List.range (nq + na)).all fun i => (preds ops k).contains i || (preds ops k).any fun j => (preds ops j).contains i) &&
  decide (nq + na ≤ ops.size) && Region.noSelect ops
def ptr (b : Nat) : Value := .pointer (some ⟨b, 0, none⟩)
/-- The new variables' addresses, laid into their slots. -/
def layL (bl : Nat → Nat) : Nat → List Tmp → Act → Act
  | _, [], a => a
  | k, d :: r, a => layL bl (k + 1) r (a.put (some d) (ptr (bl k)))

section
variable {P : Program} {ops : Array Oper} {Q : Exit → Act → World → Prop}

theorem exec_agree {o : Oper} (hs : ∀ cs b, o.op ≠ .select cs b) {a a' : Act} (h : ∀ t ∈ o.looksAt ops, a.tmps[t]? = a'.tmps[t]?) : execOp a.eval o = execOp a'.eval o :=
  execOp_congr o hs fun x hx => by
    cases x with
    | tmp t =>
      have := h t (List.mem_append_left _ (List.mem_filterMap.2 ⟨.tmp t, by simpa using hx, rfl⟩))
      simp only [Act.eval, Array.getD_eq_getD_getElem?, this]
    | const v => rfl
    | global g => rfl
    | func f => rfl

theorem want_agree {o : Oper} {a a' : Act} (h : ∀ t ∈ o.looksAt ops, a.tmps[t]? = a'.tmps[t]?) : Region.wanted o (yielded ops a.tmps) = Region.wanted o (yielded ops a'.tmps) := by
  unfold Region.wanted
  cases hg : o.guard with
  | none => rfl
  | some gw =>
    obtain ⟨g, want⟩ := gw
    have hy : yielded ops a.tmps g = yielded ops a'.tmps g := by
      unfold yielded
      cases ht : (ops[g]?).bind (·.dst) with
      | none => rfl
      | some t =>
        have := h t (by simp [Oper.looksAt, hg, ht])
        simp [this]
    simp only [hy]

theorem put_at (a : Act) (d : Tmp) (v : Value) : (a.put (some d) v).tmps[d]? = if d < a.tmps.size then some v else none := by
  simp [Act.put, Array.getElem?_setIfInBounds]
theorem put_ne (a : Act) {d t : Tmp} (v : Value) (h : d ≠ t) : (a.put (some d) v).tmps[t]? = a.tmps[t]? := by
  simp [Act.put, Array.getElem?_setIfInBounds_ne h]
theorem put_size (a : Act) (d : Option Tmp) (v : Value) : (a.put d v).tmps.size = a.tmps.size := by
  cases d <;> simp [Act.put]
theorem put_defers (a : Act) (d : Option Tmp) (v : Value) : (a.put d v).defers = a.defers := by
  cases d <;> rfl

/-- What the walk has shown of one operation, said of the frame at the walk's end. -/
def Fix (P : Program) (ops : Array Oper) (C : World → Prop) (a1 : Act) (o : Oper) (d : Tmp) : Prop :=
  (Region.wanted o (yielded ops a1.tmps) = true ∧ ∃ v, (∀ w, C w → o.quietAt P a1 C w v) ∧ a1.tmps[d]? = if d < a1.tmps.size then some v else none) ∨
  (Region.wanted o (yielded ops a1.tmps) = false ∧ a1.tmps[d]? = if d < a1.tmps.size then some undef else none)

theorem quietAt_agree {C : World → Prop} {o : Oper} (hs : ∀ cs b, o.op ≠ .select cs b) {a a' : Act} (h : ∀ t ∈ o.looksAt ops, a.tmps[t]? = a'.tmps[t]?) {w : World} {v : Value} (hq : o.quietAt P a C w v) : o.quietAt P a' C w v := by
  unfold Oper.quietAt at *
  rwa [← exec_agree hs h]

/-- From the walk to its end: every operation, seen from the last frame; what it did not write is as it was. -/
theorem fix_of_walk {C : World → Prop} {a1 : Act} (hsel : ∀ (j : Nat) (o : Oper) cs b, ops[j]? = some o → o.op ≠ .select cs b) : ∀ (l : List Oper) (k : Nat) (a : Act),
    (∀ j, l[j]? = none ∨ (l[j]? = ops[k + j]? ∧ k + j < ops.size)) →
    (∀ j, j < l.length → ∃ d, dsl ops (k + j) = some d) →
    (∀ i j, j < i → i < k + l.length → dsl ops j ≠ dsl ops i) →
    (∀ i o, k ≤ i → i < k + l.length → ops[i]? = some o → ∀ t ∈ o.looksAt ops, ∀ j, i ≤ j → j < k + l.length → dsl ops j ≠ some t) →
    wpQuiet P ops C (fun a' => a' = a1) l a →
    a1.tmps.size = a.tmps.size ∧ a1.defers = a.defers ∧ (∀ t, (∀ j, j < l.length → dsl ops (k + j) ≠ some t) → a1.tmps[t]? = a.tmps[t]?) ∧
      ∀ i o d, k ≤ i → i < k + l.length → ops[i]? = some o → dsl ops i = some d → Fix P ops C a1 o d := by
  intro l
  induction l with
  | nil =>
    intro k a _ _ _ _ h
    have h : a = a1 := h
    subst h
    exact ⟨rfl, rfl, fun _ _ => rfl, fun i _ _ h1 h2 => by simp at h2; omega⟩
  | cons o l ih =>
    intro k a hl hd hdist hlook h
    have ho : ops[k]? = some o := by
      rcases hl 0 with h0 | ⟨h0, _⟩
      · simp at h0
      · simpa using h0.symm
    obtain ⟨d, hdk⟩ := hd 0 (by simp)
    simp only [Nat.add_zero] at hdk
    have hod : o.dst = some d := by simpa [dsl, ho] using hdk
    have hl' : ∀ j, l[j]? = none ∨ (l[j]? = ops[k + 1 + j]? ∧ k + 1 + j < ops.size) := fun j => by
      have := hl (j + 1)
      simpa [Nat.add_assoc, Nat.add_comm 1 j] using this
    have hd' : ∀ j, j < l.length → ∃ d, dsl ops (k + 1 + j) = some d := fun j hj => by
      have := hd (j + 1) (by simp; omega)
      simpa [Nat.add_assoc, Nat.add_comm 1 j] using this
    have hdist' : ∀ i j, j < i → i < k + 1 + l.length → dsl ops j ≠ dsl ops i := fun i j h1 h2 => hdist i j h1 (by simp; omega)
    have hlook' : ∀ i o, k + 1 ≤ i → i < k + 1 + l.length → ops[i]? = some o → ∀ t ∈ o.looksAt ops, ∀ j, i ≤ j → j < k + 1 + l.length → dsl ops j ≠ some t :=
      fun i o h1 h2 h3 t ht j h4 h5 => hlook i o (by omega) (by simp; omega) h3 t ht j h4 (by simp; omega)
    have main : ∀ v, wpQuiet P ops C (fun a' => a' = a1) l (a.put o.dst v) → (a1.tmps.size = a.tmps.size ∧ a1.defers = a.defers ∧ (∀ t, (∀ j, j < (o :: l).length → dsl ops (k + j) ≠ some t) → a1.tmps[t]? = a.tmps[t]?) ∧
        (∀ t ∈ o.looksAt ops, a.tmps[t]? = a1.tmps[t]?) ∧ (a1.tmps[d]? = if d < a1.tmps.size then some v else none) ∧
        ∀ i o d, k + 1 ≤ i → i < k + 1 + l.length → ops[i]? = some o → dsl ops i = some d → Fix P ops C a1 o d) := by
      intro v hw
      obtain ⟨i1, i2, i3, i4⟩ := ih (k + 1) (a.put o.dst v) hl' hd' hdist' hlook' hw
      rw [hod] at i1 i2 i3
      rw [put_size] at i1
      rw [put_defers] at i2
      have e3 : ∀ t, (∀ j, j < (o :: l).length → dsl ops (k + j) ≠ some t) → a1.tmps[t]? = a.tmps[t]? := fun t ht => by
        rw [i3 t (fun j hj => by have := ht (j + 1) (by simp; omega); simpa [Nat.add_assoc, Nat.add_comm 1 j] using this)]
        exact put_ne a v (fun e => ht 0 (by simp) (by simp [hdk, e]))
      refine ⟨i1, i2, e3, fun t ht => (e3 t fun j hj => hlook k o (Nat.le_refl _) (by simp) ho t ht (k + j) (by omega) (by omega)).symm, ?_, i4⟩
      rw [i3 d (fun j hj e => hdist (k + 1 + j) k (by omega) (by simp; omega) (by rw [hdk, e])), put_at, i1]
    have step : ∀ i o' d', k ≤ i → i < k + (o :: l).length → ops[i]? = some o' → dsl ops i = some d' → (Fix P ops C a1 o d) → (∀ i o d, k + 1 ≤ i → i < k + 1 + l.length → ops[i]? = some o → dsl ops i = some d → Fix P ops C a1 o d) → Fix P ops C a1 o' d' := by
      intro i o' d' h1 h2 h3 h4 hF hR
      by_cases e : i = k
      · subst e
        rw [ho] at h3
        rw [hdk] at h4
        cases h3
        cases h4
        exact hF
      · exact hR i o' d' (by omega) (by simp at h2; omega) h3 h4
    unfold wpQuiet at h
    by_cases hw : Region.wanted o (yielded ops a.tmps) = true
    · rw [if_pos hw] at h
      obtain ⟨v, hv, hn⟩ := h
      obtain ⟨m1, m2, m3, m4, m5, m6⟩ := main v hn
      refine ⟨m1, m2, m3, fun i o' d' h1 h2 h3 h4 => step i o' d' h1 h2 h3 h4 (.inl ⟨?_, v, fun w hC => quietAt_agree (hsel k o · · ho) m4 (hv w hC), m5⟩) m6⟩
      rw [← want_agree m4]; exact hw
    · rw [if_neg hw] at h
      obtain ⟨m1, m2, m3, m4, m5, m6⟩ := main undef h
      refine ⟨m1, m2, m3, fun i o' d' h1 h2 h3 h4 => step i o' d' h1 h2 h3 h4 (.inr ⟨?_, m5⟩) m6⟩
      rw [← want_agree m4]; simpa using hw

end
end Go.Proofs.Ytbghjmkgicdnoaa
