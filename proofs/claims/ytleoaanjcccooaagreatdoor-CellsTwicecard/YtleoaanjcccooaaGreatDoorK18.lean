/-
  Texts of this claim, one behind the other: what each is about stands ahead of it.
-/
import Derived.Test.YtleoaanjcccooaaGreatDoorK16
import Derived.Test.YtleoaanjcccooaaGreatDoorK17
import Derived.Test.YtleoaanjcccooaaGreatDoorK3
/-
  Not needed in this seat.
-/
namespace Go.Proofs.YtleoaanjcccooaaGreatDoor

end Go.Proofs.YtleoaanjcccooaaGreatDoor

/-
  Not needed in this seat.
-/
namespace Go.Proofs.YtleoaanjcccooaaGreatDoor

end Go.Proofs.YtleoaanjcccooaaGreatDoor

/-
  Not needed in this seat.
-/
namespace Go.Proofs.YtleoaanjcccooaaGreatDoor

end Go.Proofs.YtleoaanjcccooaaGreatDoor

/-
  Not needed in this seat.
-/
namespace Go.Proofs.YtleoaanjcccooaaGreatDoor

end Go.Proofs.YtleoaanjcccooaaGreatDoor

/-
  Not needed in this seat.
-/
namespace Go.Proofs.YtleoaanjcccooaaGreatDoor

end Go.Proofs.YtleoaanjcccooaaGreatDoor

/-
  Contracts of package region: what is wrong with two lists; the form as an answer; Of, Meet, Less.
-/
namespace Go.Proofs.YtleoaanjcccooaaGreatDoor
open Go.RowKit

/-- What is wrong with two lists. -/
def twoE (a b : List Rc) : Int := if lisE a = 0 then lisE b else lisE a
/-- An answer: the form, if nothing is wrong and it is not too long. -/
def ansL (e : Int) (F : List Rc) : List Rc := if e = 0 ∧ F.length ≤ 1024 then F else []
def ansE (e : Int) (F : List Rc) : Int := if e = 0 then (if 1024 < F.length then 4 else 0) else e
theorem lisE_zero {l : List Rc} (h : lisE l = 0) : l.length ≤ 1024 ∧ ∀ r ∈ l, mayB r.x r.y r.w r.h = true := by
  unfold lisE at h
  split at h
  · cases h
  · split at h
    · next h1 h2 => exact ⟨by omega, List.all_eq_true.1 h2⟩
    · cases h
theorem twoE_zero {a b : List Rc} (h : twoE a b = 0) : lisE a = 0 ∧ lisE b = 0 := by
  unfold twoE at h
  split at h
  · next h1 => exact ⟨h1, h⟩
  · next h1 => exact absurd h h1
theorem lisE_cases (l : List Rc) : lisE l = 0 ∨ lisE l = 4 ∨ lisE l = 5 := by
  unfold lisE
  split
  · exact .inr (.inl rfl)
  · split
    · exact .inl rfl
    · exact .inr (.inr rfl)
theorem twoE_cases (a b : List Rc) : twoE a b = 0 ∨ twoE a b = 4 ∨ twoE a b = 5 := by
  unfold twoE
  split
  · exact lisE_cases b
  · exact lisE_cases a
def I64s (l : List Rc) : Prop := ∀ r ∈ l, I64 r.x ∧ I64 r.y
theorem lsr_nil (w : World) : LsR w (.slice none 0 0) [] := ⟨none, 0, rfl, Nat.le_refl _, fun h => absurd h (Nat.lt_irrefl 0)⟩

end Go.Proofs.YtleoaanjcccooaaGreatDoor

/-
  Contracts: whether two lists of rectangles are the same, by package slices and by the document's answer.
-/
namespace Go.Proofs.YtleoaanjcccooaaGreatDoor
open Go.RowKit

theorem rc_ext {r q : Rc} (h : ((r.x == q.x) && ((r.y == q.y) && ((r.w == q.w) && (r.h == q.h)))) = true) : r = q := by
  cases r; cases q; simp at h ⊢; exact h
theorem rc_ne {r q : Rc} (h : ((r.x == q.x) && ((r.y == q.y) && ((r.w == q.w) && (r.h == q.h)))) = false) : r ≠ q := by
  rintro rfl; simp at h
/-- Are two lists the same? -/
def sameB : List Rc → List Rc → Bool
  | [], [] => true
  | r :: t, q :: u => ((r.x == q.x) && ((r.y == q.y) && ((r.w == q.w) && (r.h == q.h)))) && sameB t u
  | _, _ => false
theorem sameB_iff : ∀ a b : List Rc, sameB a b = true ↔ a = b
  | [], [] => by simp [sameB]
  | [], _ :: _ => by simp [sameB]
  | _ :: _, [] => by simp [sameB]
  | r :: t, q :: u => by
    rw [sameB, Bool.and_eq_true, sameB_iff t u]
    constructor
    · rintro ⟨h1, h2⟩
      rw [rc_ext h1, h2]
    · intro h
      injection h with h1 h2
      subst h1
      exact ⟨by simp, h2⟩
theorem sameB_no {a b : List Rc} (h : a ≠ b) : sameB a b = false := by
  cases hs : sameB a b
  · rfl
  · exact absurd ((sameB_iff a b).1 hs) h
theorem sameB_self (a : List Rc) : sameB a a = true := (sameB_iff a a).2 rfl

end Go.Proofs.YtleoaanjcccooaaGreatDoor

/-
  Contracts of package region: Check, Same, Area.
-/
namespace Go.Proofs.YtleoaanjcccooaaGreatDoor
open Go.RowKit

theorem lsr_own {w : World} {base : Nat} {v : Value} {l : List Rc} (h : w.ownsRow base 55 4 v l.length (flat l)) : LsR w v l := by
  obtain ⟨oa, cap, rfl, hc, hg⟩ := row_val h
  refine ⟨oa, cap, rfl, hc, fun hp => ?_⟩
  obtain ⟨g, rfl, _, hg2⟩ := hg hp
  refine ⟨g, 0, rfl, hg2, fun i hi => ?_⟩
  obtain ⟨f0, f1, f2, f3⟩ := flat_at l i hi
  rw [Nat.zero_add]
  exact ⟨by rw [own_cell h _ (by omega), f0], by rw [own_cell h _ (by omega), f1], by rw [own_cell h _ (by omega), f2], by rw [own_cell h _ (by omega), f3]⟩
/-- What Check tells. -/
def chkE (l : List Rc) : Int := if lisE l = 0 then (if sameB l (formF false l []) = true then 0 else 2) else lisE l

/-- What Same tells. -/
def samR (a b : List Rc) : Bool := decide (twoE a b = 0) && sameB (formF false a []) (formF false b [])

/-- Places of rectangles, added up. -/
def arS : List Rc → Int
  | [] => 0
  | r :: t => areaI r.x r.y r.w r.h + arS t
theorem arS_app (l m : List Rc) : arS (l ++ m) = arS l + arS m := by
  induction l with
  | nil => simp [arS]
  | cons r t ih => simp only [List.cons_append, arS, ih]; omega
theorem area_bd (r : Rc) : 0 ≤ areaI r.x r.y r.w r.h ∧ areaI r.x r.y r.w r.h ≤ 1073741824 := by
  unfold areaI
  split
  · omega
  · next h =>
    have hk : keepE r = true := by unfold keepE; simpa using h
    have := (keepE_iff r).1 hk
    constructor
    · exact Int.mul_nonneg (by omega) (by omega)
    · have : r.w * r.h ≤ 32768 * 32768 := Int.mul_le_mul (by omega) (by omega) (by omega) (by omega)
      omega
theorem arS_bd : ∀ l : List Rc, 0 ≤ arS l ∧ arS l ≤ l.length * 1073741824
  | [] => by simp [arS]
  | r :: t => by
    have h1 := area_bd r
    have h2 := arS_bd t
    simp only [arS, List.length_cons]
    omega
def areA (a : List Rc) : Int := if lisE a = 0 then arS (formF false a []) else 0

end Go.Proofs.YtleoaanjcccooaaGreatDoor

/-
  Contracts of package region: Has, Bound.
-/
namespace Go.Proofs.YtleoaanjcccooaaGreatDoor
open Go.RowKit

/-- Is a place one of a list's? -/
def hasC (l : List Rc) (px py : Int) : Bool := l.any fun r => hasB r.x r.y r.w r.h px py

end Go.Proofs.YtleoaanjcccooaaGreatDoor
