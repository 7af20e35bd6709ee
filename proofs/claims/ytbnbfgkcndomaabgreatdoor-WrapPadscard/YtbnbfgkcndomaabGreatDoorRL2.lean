/-
  The contract of runes.folded: a paragraph in lines.
-/
import Derived.Test.YtbnbfgkcndomaabGreatDoorRL1
namespace Go.Proofs.YtbnbfgkcndomaabGreatDoor
open Go.RowKit Go.Shelf
attribute [local go_sem] Oper.semAt_some

/-- The lines that end ahead of a piece, and the one that takes it. -/
def squeeze : Nat → Int → Pc → List Ln → Ln → List Ln × Ln
  | 0, _, _, L, n => (L, n)
  | f + 1, room, x, L, n => if fitB n x room then (L, n) else squeeze f room x (L ++ [stays n x]) (goes n x)
def foldL (room : Int) : List Pc → List Ln → Ln → List Ln × Ln
  | [], L, n => (L, n)
  | x :: t, L, n => foldL room t (squeeze 3 room x L n).1 (withL (squeeze 3 room x L n).2 x)
def zeroL : Ln := ⟨0, 0, 0, 0, 0⟩
def linesOf (s : ByteArray) (room : Int) : List Ln := (foldL room (pcs s) [] zeroL).1 ++ [(foldL room (pcs s) [] zeroL).2]

/-- How often a line is parted yet. -/
def mea (n : Ln) (x : Pc) (room : Int) : Nat := if fitB n x room then 0 else if x.r = 32 ∨ n.k = n.fr then 1 else 2
theorem mea_goes (n : Ln) (x : Pc) (room : Int) (h : fitB n x room = false) : mea (goes n x) x room < mea n x room := by
  unfold mea
  rw [h]
  by_cases c : x.r = 32 ∨ n.k = n.fr
  · have : fitB (goes n x) x room = true := by simp [fitB, goes, c]
    rw [this]; simp [c]
  · have e : (goes n x).k = (goes n x).fr := by simp [goes, c]
    simp only [e, or_true, if_true, c, if_false, Bool.false_eq_true]
    split <;> omega

def flatL (L : List Ln) : List Value := (L.map fun l => (lnC l).toList).flatten
theorem flatL_snoc (L : List Ln) (l : Ln) : flatL (L ++ [l]) = flatL L ++ (lnC l).toList := by simp [flatL]

theorem OkL.goes {l : Ln} {n : Nat} (h : OkL l n) (x : Pc) : OkL (goes l x) n := by
  obtain ⟨h1, h2, h3⟩ := h
  unfold Go.Proofs.YtbnbfgkcndomaabGreatDoor.goes
  split
  · exact ⟨by simp, by simp, by simp; omega⟩
  · exact ⟨by simp, by simp; omega, by simp; omega⟩
theorem OkL.with {l : Ln} {n : Nat} (h : OkL l n) (x : Pc) : OkL (withL l x) (n + 1) := by
  obtain ⟨h1, h2, h3⟩ := h
  have := width_range x.r
  unfold withL OkL
  dsimp only
  split <;> omega

theorem info_line : (Tryz.prog.info? 456).map (fun i => (i.zero, i.size, i.bytes)) = some (some (.agg #[.int .i64 0, .int .i64 0, .int .i64 0, .int .i64 0, .int .i64 0]), 5, 40) := by kernel_rfl

/-- A row of one's own, over what does not touch it. -/
theorem row_own {β : Type} {L0 base : Nat} {e : TypeId} {size : Nat} {v : Value} {n : Nat} {xs : List Value} : OwnFrom L0 (fun (_ : β) V => V.ownsRow base e size v n xs) := by
  intro s X Y row hs hg hr
  obtain ⟨hl, h⟩ := hs
  refine ⟨hl, ?_⟩
  rcases h with h | ⟨g, cap, cur, rfl, hb, hc, h1, h2, h3, h4⟩
  · exact .inl h
  · refine .inr ⟨g, cap, cur, rfl, hb, ?_, h1, h2, h3, h4⟩
    refine (hg.block g (Array.getElem?_eq_some_iff.1 hc).1 (fun e => ?_)).trans hc
    obtain ⟨_, o, ho, hno⟩ := hr g e.symm
    rw [hc] at ho
    cases ho
    cases hno
theorem row_set {base : Nat} {e : TypeId} {size : Nat} {v : Value} {n : Nat} {xs : List Value} {X : World} (h : X.ownsRow base e size v n xs) (p : Addr) (u : Value) (hp : p.block < base) : (X.setCell p u).ownsRow base e size v n xs := by
  obtain ⟨hl, h⟩ := h
  refine ⟨hl, ?_⟩
  rcases h with h | ⟨g, cap, cur, rfl, hb, hc, h1, h2, h3, h4⟩
  · exact .inl h
  · exact .inr ⟨g, cap, cur, rfl, hb, same_set hc (by omega), h1, h2, h3, h4⟩
theorem row_below {base : Nat} {e : TypeId} {size : Nat} {v : Value} {n : Nat} {xs : List Value} {X Y : World} (h : X.ownsRow base e size v n xs) (hb : Below X.heap.size X Y) : Y.ownsRow base e size v n xs :=
  OwnFrom.below (β := Unit) (B := 0) row_own (s := ()) h hb
/-- What an append onto such a row leaves as it was. -/
theorem row_grown {base : Nat} {e : TypeId} {size : Nat} {v : Value} {n : Nat} {xs : List Value} {X Y : World} (h : X.ownsRow base e size v n xs) (hg : X.grownBy Y v.ownBlock) :
    ∀ (k : Nat) (o : Obj), (k < base ∨ o.isCells = false) → X.heap[k]? = some o → Y.heap[k]? = some o := by
  intro k o hk e
  refine (hg.block k (Array.getElem?_eq_some_iff.1 e).1 (fun he => ?_)).trans e
  obtain ⟨hl, h⟩ := h
  rcases h with ⟨rfl, _⟩ | ⟨g, cap, cur, rfl, hb, hc, _⟩
  · cases he
  · simp [Value.ownBlock] at he
    subst he
    rcases hk with hk | hk
    · omega
    · rw [hc] at e; cases e; cases hk

end Go.Proofs.YtbnbfgkcndomaabGreatDoor
