/-
  Wrappers in plain words: which may be, what they leave; lists of them in memory.
-/
import Derived.Test.YtbnbfgkcndomaabGreatDoorUP
import Derived.Test.YtbnbfgkcndomaabGreatDoorRF
import Derived.Test.YtbnbfgkcndomaabGreatDoorVTab
import Derived.Test.YtbnbfgkcndomaabGreatDoorW3
namespace Go.Proofs.YtbnbfgkcndomaabGreatDoor
open Go.RowKit

/-- A wrapper. -/
structure Wr where
  kind : Nat
  mask : Nat
  num : Int
  text : ByteArray

def mskB (x : Wr) : Bool := if x.kind = 1 ∨ x.kind = 2 then decide (x.mask < 64) else decide (x.mask = 0)
def numB (x : Wr) : Bool := if x.kind = 3 then fromTo x.num 0 16384 else if x.kind = 5 then fromTo x.num (-1) 1048576 else decide (x.num = 0)
def txtB (x : Wr) : Bool := if x.kind = 4 then txB x.text 64 else if x.kind = 6 then txB x.text 64 && decide (x.text.size ≠ 0) else decide (x.text.size = 0)
def okW (x : Wr) : Bool := decide (1 ≤ x.kind) && (decide (x.kind ≤ 7) && (mskB x && (numB x && txtB x)))
/-- What is left of abilities with a wrapper about them. -/
def lefC (c : Nat) (x : Wr) : Nat := if x.kind = 1 then c &&& (63 ^^^ x.mask) else if x.kind = 2 then c &&& x.mask else if x.kind = 5 then c ||| 4 else if x.kind = 6 then c ||| 16 else if x.kind = 7 then 0 else c
def ckE (l : List Wr) : Int := if 16 < l.length then 4 else if l.all okW then 0 else 70
def sayC (c : Nat) (l : List Wr) : Nat := l.foldl lefC c
def Wr.wf (x : Wr) : Prop := x.kind < 256 ∧ x.mask < 65536 ∧ x.text.size ≤ 9223372036854775807 ∧ I64 x.num

theorem and_fin : ∀ a b : Fin 64, bits .andNot .u16 ((a.val : Nat) : Int) ((b.val : Nat) : Int) = ((a.val &&& (63 ^^^ b.val) : Nat) : Int) ∧ bits .and .u16 ((a.val : Nat) : Int) ((b.val : Nat) : Int) = ((a.val &&& b.val : Nat) : Int) ∧ ((a.val : Nat) : Int) - ((a.val &&& b.val : Nat) : Int) = ((a.val &&& (63 ^^^ b.val) : Nat) : Int) ∧ a.val &&& (63 ^^^ b.val) < 64 ∧ a.val &&& b.val < 64 := by decide +kernel
theorem or_fin : ∀ a : Fin 64, bits .or .u16 ((a.val : Nat) : Int) 4 = ((a.val ||| 4 : Nat) : Int) ∧ bits .or .u16 ((a.val : Nat) : Int) 16 = ((a.val ||| 16 : Nat) : Int) ∧ a.val ||| 4 < 64 ∧ a.val ||| 16 < 64 := by decide +kernel
theorem bey2_fin : ∀ a b : Fin 256, (bits .andNot .u16 ((a.val * 256 + b.val : Nat) : Int) 63 == 0) = decide (a.val * 256 + b.val < 64) := by decide +kernel
theorem bey2 (m : Nat) (h : m < 65536) : (bits .andNot .u16 (m : Int) 63 == 0) = decide (m < 64) := by
  have := bey2_fin ⟨m / 256, by omega⟩ ⟨m % 256, by omega⟩
  simp only at this
  rwa [show m / 256 * 256 + m % 256 = m by omega] at this
theorem lef_lt (c : Nat) (x : Wr) (hc : c < 64) (hm : x.kind = 1 ∨ x.kind = 2 → x.mask < 64) : lefC c x < 64 := by
  unfold lefC
  split
  · exact (and_fin ⟨c, hc⟩ ⟨x.mask, hm (.inl (by assumption))⟩).2.2.2.1
  split
  · exact (and_fin ⟨c, hc⟩ ⟨x.mask, hm (.inr (by assumption))⟩).2.2.2.2
  split
  · exact (or_fin ⟨c, hc⟩).2.2.1
  split
  · exact (or_fin ⟨c, hc⟩).2.2.2
  split <;> omega
theorem ok_mask {x : Wr} (h : okW x = true) : x.kind = 1 ∨ x.kind = 2 → x.mask < 64 := by
  intro hk
  simp only [okW, Bool.and_eq_true] at h
  have := h.2.2.1
  unfold mskB at this
  rw [if_pos hk] at this
  exact of_decide_eq_true this
theorem ok_kind {x : Wr} (h : okW x = true) : 1 ≤ x.kind ∧ x.kind ≤ 7 := by
  simp only [okW, Bool.and_eq_true, decide_eq_true_eq] at h
  exact ⟨h.1, h.2.1⟩
theorem say_lt : ∀ (l : List Wr) (c : Nat), c < 64 → (∀ x ∈ l, okW x = true) → sayC c l < 64
  | [], c, hc, _ => hc
  | x :: l, c, hc, h => say_lt l (lefC c x) (lef_lt c x hc (ok_mask (h x (by simp)))) (fun y hy => h y (by simp [hy]))
theorem say_snoc (c : Nat) (l : List Wr) (x : Wr) : sayC c (l ++ [x]) = lefC (sayC c l) x := by simp [sayC]

/-- A wrapper that lies from cell p of block g on. -/
def WrAt (w : World) (g p : Nat) (x : Wr) : Prop := w.cell? ⟨g, p, none⟩ = some (.int .u8 (x.kind : Nat)) ∧ w.cell? ⟨g, p + 1, none⟩ = some (.int .u16 (x.mask : Nat)) ∧ w.cell? ⟨g, p + 2, none⟩ = some (.int .i64 x.num) ∧ w.cell? ⟨g, p + 3, none⟩ = some (.string x.text)
theorem WrAt.kept {w w' : World} {g p : Nat} {x : Wr} (h : WrAt w g p x) (hb : ∀ o, w'.cell? ⟨g, o, none⟩ = w.cell? ⟨g, o, none⟩) : WrAt w' g p x := by
  have e := fun j => hb (p + j)
  exact ⟨(e 0).trans h.1, (e 1).trans h.2.1, (e 2).trans h.2.2.1, (e 3).trans h.2.2.2⟩
/-- A slice that holds wrappers. -/
def Wraps (w : World) (v : Value) (l : List Wr) : Prop := ∃ oa cap, v = .slice oa l.length cap ∧ l.length ≤ cap ∧ (0 < l.length → ∃ g o, oa = some ⟨g, o, none⟩ ∧ g < w.heap.size ∧ ∀ i (h : i < l.length), WrAt w g (o + i * 4) l[i])
theorem Wraps.below {w w' : World} {v : Value} {l : List Wr} (h : Wraps w v l) (hb : Below w.heap.size w w') : Wraps w' v l := by
  obtain ⟨oa, cap, e, hc, hg⟩ := h
  refine ⟨oa, cap, e, hc, fun hp => ?_⟩
  obtain ⟨g, o, e1, g1, g2⟩ := hg hp
  exact ⟨g, o, e1, Nat.lt_of_lt_of_le g1 hb.size, fun i hi => (g2 i hi).kept fun j => hb.cell (p := ⟨g, j, none⟩) g1⟩
theorem Wraps.alloc {w : World} {v : Value} {l : List Wr} (h : Wraps w v l) (o : Obj) : Wraps (w.alloc o) v l := h.below ((Below.refl _ _).alloc (Nat.le_refl _) o)

theorem txt_list (t : ByteArray) : t.toList = t.data.toList := by first | exact ByteArray.toList_eq t | exact Lib.toList_data t | simp
theorem txt_ne {t : ByteArray} (h : t.size ≠ 0) : ¬ (t = ByteArray.empty) ∧ t.toList.isEmpty = false := by
  refine ⟨by rintro rfl; exact h rfl, ?_⟩
  rw [txt_list]
  cases hd : t.data.toList with
  | nil => exact absurd (congrArg List.length hd) (by rw [Array.length_toList]; exact h)
  | cons _ _ => rfl
theorem txt_nil {t : ByteArray} (h : t.size = 0) : t = ByteArray.empty := by
  obtain ⟨d⟩ := t
  have : d = #[] := Array.eq_empty_of_size_eq_zero h
  rw [this]; rfl

end Go.Proofs.YtbnbfgkcndomaabGreatDoor
