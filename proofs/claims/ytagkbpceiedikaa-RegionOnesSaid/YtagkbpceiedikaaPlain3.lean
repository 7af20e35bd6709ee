/-
  What is left of a rectangle, as a list; a list of rectangles as cells.
-/
import Derived.Test.YtagkbpceiedikaaPlain2
import Derived.WalkKit
namespace Go.Proofs.Ytagkbpceiedikaa

def keepB (r : Rc) : Bool := !eqB r 0 0 0 0
def pcs (ax ay aw ah mx my mw mh : Int) : List Rc := [btw ax ay (ax + aw) my, btw ax my mx (my + mh), btw (mx + mw) my (ax + aw) (my + mh), btw ax (my + mh) (ax + aw) (ay + ah)]
def lesL (ax ay aw ah bx by' bw bh : Int) : List Rc :=
  if (mayB ax ay aw ah && (mayB bx by' bw bh && !emptyB ax ay aw ah)) = true then
    (if eqB (meetR ax ay aw ah bx by' bw bh) 0 0 0 0 = true then [⟨ax, ay, aw, ah⟩]
     else (pcs ax ay aw ah (meetR ax ay aw ah bx by' bw bh).x (meetR ax ay aw ah bx by' bw bh).y (meetR ax ay aw ah bx by' bw bh).w (meetR ax ay aw ah bx by' bw bh).h).filter keepB)
  else []
def lesE (ax ay aw ah bx by' bw bh : Int) : Int := if (mayB ax ay aw ah && mayB bx by' bw bh) = true then 0 else 5
def cel (r : Rc) : List Value := [.int .i64 r.x, .int .i64 r.y, .int .i64 r.w, .int .i64 r.h]
def flat : List Rc → List Value
  | [] => []
  | r :: l => cel r ++ flat l
theorem flat_length (l : List Rc) : (flat l).length = l.length * 4 := by
  induction l with
  | nil => rfl
  | cons r l ih => simp [flat, cel, ih]; omega
theorem flat_append (l k : List Rc) : flat (l ++ k) = flat l ++ flat k := by
  induction l with
  | nil => rfl
  | cons r l ih => simp [flat, ih]
theorem flat_one (r : Rc) : flat [r] = cel r := by simp [flat]

theorem meet_bd {ax ay aw ah bx by' bw bh : Int} (e : emptyB ax ay aw ah = false) :
    -16384 ≤ (meetR ax ay aw ah bx by' bw bh).x ∧ (meetR ax ay aw ah bx by' bw bh).x ≤ 16384 ∧ -16384 ≤ (meetR ax ay aw ah bx by' bw bh).y ∧ (meetR ax ay aw ah bx by' bw bh).y ≤ 16384 ∧
    0 ≤ (meetR ax ay aw ah bx by' bw bh).w ∧ (meetR ax ay aw ah bx by' bw bh).w ≤ 32768 ∧ 0 ≤ (meetR ax ay aw ah bx by' bw bh).h ∧ (meetR ax ay aw ah bx by' bw bh).h ≤ 32768 := by
  obtain ⟨a1, a2, a3, a4, a5, a6, a7, a8, a9, a10⟩ := bounds_of e
  unfold meetR
  cases h2 : emptyB bx by' bw bh
  · obtain ⟨b1, b2, b3, b4, b5, b6, b7, b8, b9, b10⟩ := bounds_of h2
    simp only [e, Bool.or_self, Bool.false_eq_true, if_false]
    unfold btw
    split
    · simp [zr]
    · simp only; omega
  · simp [zr]

end Go.Proofs.Ytagkbpceiedikaa
